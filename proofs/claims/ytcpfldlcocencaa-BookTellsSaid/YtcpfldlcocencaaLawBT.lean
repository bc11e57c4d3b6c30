/-
  BookTells: all ways together.
-/
import Derived.Test.YtcpfldlcocencaaBTC0
import Derived.Test.YtcpfldlcocencaaBTC1
import Derived.Test.YtcpfldlcocencaaBTC2
namespace Go.Proofs.Ytcpfldlcocencaa
open Go.RowKit
set_option linter.unusedVariables false

theorem bookTells_walk (v t : Value) (a u : Int) (b l : List (Int × Int × Int)) (w : World) (hb : ReadsP w v b) (hl : ReadsP w t l) : Calls Try.prog 3 #[v, t, .int .i64 a, .int .i64 u] w fun e w' => e = .returned (.bool true) ∧ Kpt w w' := by
  by_cases hc : chkE l = 0
  · by_cases hp : linE b = 0
    · by_cases g1 : a < 0
      · exact bookTells_P1C0 v t a u b l w hb hl ⟨hp, g1⟩ hc
      · by_cases g2 : 100 < a
        · exact bookTells_P2C0 v t a u b l w hb hl ⟨hp, g1, g2⟩ hc
        · by_cases g3 : u < 0
          · exact bookTells_P3C0 v t a u b l w hb hl ⟨hp, g1, g2, g3⟩ hc
          · by_cases g4 : 20 < u
            · exact bookTells_P4C0 v t a u b l w hb hl ⟨hp, g1, g2, g3, g4⟩ hc
            · exact bookTells_P5C0 v t a u b l w hb hl ⟨hp, g1, g2, g3, g4⟩ hc
    · exact bookTells_P0C0 v t a u b l w hb hl hp hc
  · by_cases hn : l = []
    · by_cases hp : linE b = 0
      · by_cases g1 : a < 0
        · exact bookTells_P1C1 v t a u b l w hb hl ⟨hp, g1⟩ hn
        · by_cases g2 : 100 < a
          · exact bookTells_P2C1 v t a u b l w hb hl ⟨hp, g1, g2⟩ hn
          · by_cases g3 : u < 0
            · exact bookTells_P3C1 v t a u b l w hb hl ⟨hp, g1, g2, g3⟩ hn
            · by_cases g4 : 20 < u
              · exact bookTells_P4C1 v t a u b l w hb hl ⟨hp, g1, g2, g3, g4⟩ hn
              · exact bookTells_P5C1 v t a u b l w hb hl ⟨hp, g1, g2, g3, g4⟩ hn
      · exact bookTells_P0C1 v t a u b l w hb hl hp hn
    · have h2 : chkE l ≠ 0 ∧ 0 < l.length := ⟨hc, List.length_pos_iff.2 hn⟩
      by_cases hp : linE b = 0
      · by_cases g1 : a < 0
        · exact bookTells_P1C2 v t a u b l w hb hl ⟨hp, g1⟩ h2
        · by_cases g2 : 100 < a
          · exact bookTells_P2C2 v t a u b l w hb hl ⟨hp, g1, g2⟩ h2
          · by_cases g3 : u < 0
            · exact bookTells_P3C2 v t a u b l w hb hl ⟨hp, g1, g2, g3⟩ h2
            · by_cases g4 : 20 < u
              · exact bookTells_P4C2 v t a u b l w hb hl ⟨hp, g1, g2, g3, g4⟩ h2
              · exact bookTells_P5C2 v t a u b l w hb hl ⟨hp, g1, g2, g3, g4⟩ h2
      · exact bookTells_P0C2 v t a u b l w hb hl hp h2

end Go.Proofs.Ytcpfldlcocencaa
