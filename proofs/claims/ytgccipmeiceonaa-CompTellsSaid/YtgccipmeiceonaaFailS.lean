/-
  Fails in memory: a fail is read whole and stored whole.
-/
import Derived.Test.YtgccipmeiceonaaFailC
import Derived.Laws.Rows
import Derived.Laws.Tables
import Derived.Laws.CopyOwn
namespace Go.Proofs.Ytgccipmeiceonaa
open Go.RowKit
set_option linter.unusedVariables false

theorem Try.sizeFail : (Try.prog.info? 38).map (·.size) = some 10 := by kernel_rfl
theorem wp_storeF {ops : Array Oper} {rest : List Oper} {o : Oper} {a : Act} {w : World} {Q : Exit → Act → World → Prop} (hgd : o.guard = none) (x y : Operand) (ho : o.op = .store 38 x y)
    (g : Nat) (cs old : Array Value) (hx : a.eval x = .pointer (some ⟨g, 0, none⟩)) (hy : a.eval y = .agg cs) (hg : Blk w g old 38) (hs : old.size = 10) (hc : cs.size = 10) (h1 : cs.all (·.oneCell') = true)
    (h : ∀ w', Blk w' g cs 38 → (∀ B w0, Below B w0 w → B ≤ g → Below B w0 w') → (∀ k, k ≠ g → w'.heap[k]? = w.heap[k]?) → wpList Try.prog ops Q rest (a.put o.dst undef) w') : wpList Try.prog ops Q (o :: rest) a w :=
  wpList_store_row hgd _ x y ho g cs hx hy _ old hg (by rw [hc]; exact Try.sizeFail) (by omega) h1 (h _ (setRow_heap w g old cs _ _ hg) (fun B w0 hb hB => below_setRow hb hB cs) (fun k hk => setRow_other w g k cs hk))
theorem wp_loadF {ops : Array Oper} {rest : List Oper} {o : Oper} {a : Act} {w : World} {Q : Exit → Act → World → Prop} (hgd : o.guard = none) (x : Operand) (ho : o.op = .load 38 x)
    (g : Nat) (cs : Array Value) (hx : a.eval x = .pointer (some ⟨g, 0, none⟩)) (hg : Blk w g cs 38) (hc : cs.size = 10)
    (h : wpList Try.prog ops Q rest (a.put o.dst (.agg cs)) w) : wpList Try.prog ops Q (o :: rest) a w :=
  wpList_load_row hgd _ x ho g hx _ cs _ _ hg Try.underlying38 rfl (by rw [hc]; exact Try.sizeFail) h
theorem results_F2 {fn : Func} {p q : Tmp} (h : fn.results = #[.cell p 38, .tmp q]) (tmps : Array Value) (w : World) (g : Nat) (cs : Array Value) (z : Value)
    (hp : tmps.getD p undef = .pointer (some ⟨g, 0, none⟩)) (hq : tmps.getD q undef = z) (hg : Blk w g cs 38) (hc : cs.size = 10) : (results fn tmps).run Try.prog w = .ok (.tuple #[.agg cs, z]) w := by
  have hp' : tmps[p]?.getD undef = .pointer (some ⟨g, 0, none⟩) := by simpa using hp
  have hq' : tmps[q]?.getD undef = z := by simpa using hq
  have hl := run_loadVar_row (P := Try.prog) w g 38 38 cs (0, 0) _ hg Try.underlying38 rfl (by rw [hc]; exact Try.sizeFail)
  simp [results, h, hp', hq', asAddr, hl]
theorem results_F3 {fn : Func} {p q r : Tmp} (h : fn.results = #[.cell p 38, .tmp q, .tmp r]) (tmps : Array Value) (w : World) (g : Nat) (cs : Array Value) (z y : Value)
    (hp : tmps.getD p undef = .pointer (some ⟨g, 0, none⟩)) (hq : tmps.getD q undef = z) (hr : tmps.getD r undef = y) (hg : Blk w g cs 38) (hc : cs.size = 10) : (results fn tmps).run Try.prog w = .ok (.tuple #[.agg cs, z, y]) w := by
  have hp' : tmps[p]?.getD undef = .pointer (some ⟨g, 0, none⟩) := by simpa using hp
  have hq' : tmps[q]?.getD undef = z := by simpa using hq
  have hr' : tmps[r]?.getD undef = y := by simpa using hr
  have hl := run_loadVar_row (P := Try.prog) w g 38 38 cs (0, 0) _ hg Try.underlying38 rfl (by rw [hc]; exact Try.sizeFail)
  simp [results, h, hp', hq', hr', asAddr, hl]

end Go.Proofs.Ytgccipmeiceonaa
