/-
  What SortStableFunc of package slices does with forty places or fewer, in a row of the call's own, whatever compares them by a key.
-/
import Derived.Test.YtmoanndonfmihaaStabE
namespace Go.Proofs.Ytmoanndonfmihaa
open Go.RowKit Go.Lib
set_option linter.unusedVariables false

/-- the row holds the places below n, sorted -/
def Srt (lx : Int → Int → Prop) (w : World) (blk n : Nat) (w' : World) : Prop := ∃ os, SI w blk os w' ∧ os.Perm (iota n) ∧ os.Pairwise lx
/-- the row holds the first twenty of them sorted, and the others behind them -/
def Half (lx : Int → Int → Prop) (w : World) (blk n : Nat) (w' : World) : Prop := ∃ M1, SI w blk (M1 ++ (iota n).drop 20) w' ∧ M1.Perm ((iota n).take 20) ∧ M1.Pairwise lx
/-- both parts are sorted -/
def Both (lx : Int → Int → Prop) (w : World) (blk n : Nat) (w' : World) : Prop := ∃ M1 M2, SI w blk (M1 ++ M2) w' ∧ M1.Perm ((iota n).take 20) ∧ M1.Pairwise lx ∧ M2.Perm ((iota n).drop 20) ∧ M2.Pairwise lx

/-- all that is asked of the comparison -/
structure Cmps (fn : Nat) (cb : Array Value) (cf : Int → Int → Int) (lx : Int → Int → Prop) (n blk : Nat) (w : World) : Prop where
  key : Keyed n cf lx
  eg : ∀ args w, (callFunc fn args).run Try.prog w = .ok (.enter fn args) w
  at_ : CmpAt fn cb cf n blk w
  row : Row w blk (iota n)
  pos : 0 < n
  le : n ≤ 40

theorem half_len {n : Nat} {M1 : List Int} (h20 : 20 ≤ n) (h : M1.Perm ((iota n).take 20)) : M1.length = 20 := by rw [h.length_eq, List.length_take, iota_len]; omega
theorem rest_len (n : Nat) : ((iota n).drop 20).length = n - 20 := by rw [List.length_drop, iota_len]
theorem iota_parts (n : Nat) : (iota n).take 20 ++ (iota n).drop 20 = iota n := List.take_append_drop _ _
theorem lo_mem {n : Nat} {x : Int} (h : x ∈ (iota n).take 20) : 0 ≤ x ∧ x < n := iota_mem.1 (List.mem_of_mem_take h)
theorem hi_mem {n : Nat} {x : Int} (h : x ∈ (iota n).drop 20) : 0 ≤ x ∧ x < n := iota_mem.1 (List.mem_of_mem_drop h)

section
variable {fn : Nat} {cb : Array Value} {cf : Int → Int → Int} {lx : Int → Int → Prop} {n blk cap : Nat} {w : World}
theorem Cmps.all (H : Cmps fn cb cf lx n blk w) : Calls Try.prog 121 #[.slice (some ⟨blk, 0, none⟩) n cap, .int .i64 0, .int .i64 (n : Int), .func (.func fn) #[] cb] w fun e w' => e = .returned (.tuple #[]) ∧ Srt lx w blk n w' := by
  obtain ⟨M, rfl⟩ : ∃ M, n = M + 1 := ⟨n - 1, by have := H.pos; omega⟩
  have hle := H.le
  have h := ins_any fn cb cf lx M blk cap H.key H.eg [] (iota (M + 1)) [] 0 (M + 1) w (by simpa using H.row) rfl (by rw [iota_len]; omega) (iota_sorted _) (fun x hx => iota_mem.1 (by simpa using hx)) (by simp [iota_len]; omega) H.at_
  have e : ([] ++ iota (M + 1) ++ [] : List Int).length = M + 1 := by simp [iota_len]
  rw [e] at h
  refine h.mono ?_
  rintro e w' ⟨rfl, Q, h1, h2, h3⟩
  exact ⟨rfl, Q, by simpa using h1, h2, h3⟩
theorem Cmps.low (H : Cmps fn cb cf lx n blk w) (h20 : 20 ≤ n) : Calls Try.prog 121 #[.slice (some ⟨blk, 0, none⟩) n cap, .int .i64 0, .int .i64 20, .func (.func fn) #[] cb] w fun e w' => e = .returned (.tuple #[]) ∧ Half lx w blk n w' := by
  obtain ⟨M, rfl⟩ : ∃ M, n = M + 1 := ⟨n - 1, by have := H.pos; omega⟩
  have hle := H.le
  have e0 : [] ++ (iota (M + 1)).take 20 ++ (iota (M + 1)).drop 20 = iota (M + 1) := by rw [List.nil_append, iota_parts]
  have h := ins_any fn cb cf lx M blk cap H.key H.eg [] ((iota (M + 1)).take 20) ((iota (M + 1)).drop 20) 0 20 w (by rw [e0]; exact H.row) rfl (by rw [List.length_take, iota_len]; omega) ((iota_sorted _).sublist (List.take_sublist _ _)) (fun x hx => iota_mem.1 (by rw [e0] at hx; exact hx)) (by rw [e0, iota_len]; omega) H.at_
  rw [e0, iota_len] at h
  refine h.mono ?_
  rintro e w' ⟨rfl, Q, h1, h2, h3⟩
  exact ⟨rfl, Q, by simpa using h1, h2, h3⟩
theorem Cmps.high (H : Cmps fn cb cf lx n blk w) (h20 : 20 ≤ n) {w1 : World} (G : Half lx w blk n w1) : Calls Try.prog 121 #[.slice (some ⟨blk, 0, none⟩) n cap, .int .i64 20, .int .i64 (n : Int), .func (.func fn) #[] cb] w1 fun e w' => e = .returned (.tuple #[]) ∧ Both lx w blk n w' := by
  obtain ⟨M, rfl⟩ : ∃ M, n = M + 1 := ⟨n - 1, by have := H.pos; omega⟩
  have hle := H.le
  obtain ⟨M1, g1, g2, g3⟩ := G
  have l1 := half_len h20 g2
  have l2 := rest_len (M + 1)
  have e0 : (M1 ++ (iota (M + 1)).drop 20 ++ []).length = M + 1 := by simp [l1, l2]; omega
  have h := ins_any fn cb cf lx M blk cap H.key H.eg M1 ((iota (M + 1)).drop 20) [] 20 (M + 1) w1 (by rw [List.append_nil]; exact g1.row) l1 (by rw [l2]; omega) ((iota_sorted _).sublist (List.drop_sublist _ _)) (fun x hx => by
    rw [List.append_nil] at hx
    rcases List.mem_append.1 hx with hx | hx
    · exact lo_mem (g2.mem_iff.1 hx)
    · exact hi_mem hx) (by omega) (H.at_.on g1.bel)
  rw [e0] at h
  refine h.mono ?_
  rintro e w' ⟨rfl, Q, h1, h2, h3⟩
  exact ⟨rfl, M1, Q, by have := g1.tr h1; rwa [List.append_nil] at this, g2, g3, h2, h3⟩
theorem Cmps.empty (H : Cmps fn cb cf lx n blk w) {w1 : World} {D : List Int} (g : SI w blk D w1) (hp : D.Perm (iota n)) {z : Int} (hz : z = n) : Calls Try.prog 121 #[.slice (some ⟨blk, 0, none⟩) n cap, .int .i64 z, .int .i64 z, .func (.func fn) #[] cb] w1 fun e w' => e = .returned (.tuple #[]) ∧ SI w blk D w' := by
  subst hz
  obtain ⟨M, rfl⟩ : ∃ M, n = M + 1 := ⟨n - 1, by have := H.pos; omega⟩
  have hle := H.le
  have hl : D.length = M + 1 := by rw [hp.length_eq, iota_len]
  have h := ins_any fn cb cf lx M blk cap H.key H.eg D [] [] (M + 1) (M + 1) w1 (by simpa using g.row) hl (by simp) List.Pairwise.nil (fun x hx => iota_mem.1 (hp.mem_iff.1 (by simpa using hx))) (by simp; omega) (H.at_.on g.bel)
  have e0 : (D ++ [] ++ []).length = M + 1 := by simp [hl]
  rw [e0] at h
  refine h.mono ?_
  rintro e w' ⟨rfl, Q, h1, h2, h3⟩
  have hq : Q = [] := List.eq_nil_of_length_eq_zero (by rw [h2.length_eq]; rfl)
  subst hq
  exact ⟨rfl, by have := g.tr h1; simpa using this⟩
theorem both_perm {M1 M2 : List Int} (h1 : M1.Perm ((iota n).take 20)) (h2 : M2.Perm ((iota n).drop 20)) : (M1 ++ M2).Perm (iota n) := by
  rw [← iota_parts n]; exact List.Perm.append h1 h2
theorem Half.perm (h20 : 20 = n) {w1 : World} (G : Half lx w blk n w1) : Srt lx w blk n w1 := by
  obtain ⟨M1, g1, g2, g3⟩ := G
  have e : (iota n).drop 20 = [] := List.drop_of_length_le (by rw [iota_len]; omega)
  have e2 : (iota n).take 20 = iota n := List.take_of_length_le (by rw [iota_len]; omega)
  rw [e, List.append_nil] at g1
  rw [e2] at g2
  exact ⟨M1, g1, g2, g3⟩
end


end Go.Proofs.Ytmoanndonfmihaa
