/-
  Merged: MapIds.
-/
import Derived.Test.YtgccipmeiceonaaMk3
import Derived.Maps.OwnOps
import Derived.Maps.OwnSet
-- MapIds
namespace Go.Proofs.Ytgccipmeiceonaa
open Go.RowKit Go.Maps
set_option linter.unusedVariables false

def idsD (ids : List Int) : DataW Unit := setOf (.lit (.bool true)) (ids.map fun i => Lit.int .i64 i)
def OwnsIds (w : World) (b n : Nat) (ids : List Int) : Prop := w.ownsMap Try.prog 3 (plainElem Try.prog 4) b n (idsD ids)
theorem OwnsIds.nil (w : World) : OwnsIds (w.alloc (.map #[] 0)) w.heap.size 0 [] := World.ownsMap_made w _ _ _
theorem OwnsIds.block {w w' : World} {b n : Nat} {ids : List Int} (h : OwnsIds w b n ids) (e : w'.heap[b]? = w.heap[b]?) : OwnsIds w' b n ids := by
  obtain ⟨es, clock, hb, r⟩ := h
  exact ⟨es, clock, e.trans hb, r⟩
theorem OwnsIds.lt {w : World} {b n : Nat} {ids : List Int} (h : OwnsIds w b n ids) : b < w.heap.size := World.ownsMap.lt h
theorem OwnsIds.kpt {w w' : World} {b n : Nat} {ids : List Int} (h : OwnsIds w b n ids) (k : Kpt w w') : OwnsIds w' b n ids := h.block (k.block b h.lt)
theorem ids_snoc (ids : List Int) (i : Int) : (idsD ids).put (.int .i64 i) (.lit (.bool true)) = idsD (ids ++ [i]) := by
  unfold idsD; rw [List.map_append, List.map_singleton, setOf_snoc]
theorem atKey_in (u z : DataW Unit) (k : Lit) (hk : WideAt.IsKeyLit k) : ∀ (acc : List Lit) (m : DataW Unit), IsMap m → k ∈ acc ∨ m.atKey k z = u → (acc.foldl (fun m x => m.put x u) m).atKey k z = u
  | [], m, _, h => by
    rcases h with h | h
    · cases h
    · exact h
  | x :: r, m, hm, h => by
    rw [List.foldl_cons]
    refine atKey_in u z k hk r (m.put x u) (hm.put x u) ?_
    by_cases e : k = x
    · subst e
      exact .inr (atKey_put_same hm hk u z)
    · rcases h with h | h
      · rcases List.mem_cons.1 h with h | h
        · exact absurd h e
        · exact .inl h
      · exact .inr (by rw [atKey_put_other e]; exact h)
theorem atKey_out (u z : DataW Unit) (k : Lit) : ∀ (acc : List Lit) (m : DataW Unit), k ∉ acc → (acc.foldl (fun m x => m.put x u) m).atKey k z = m.atKey k z
  | [], m, _ => rfl
  | x :: r, m, h => by
    rw [List.foldl_cons, atKey_out u z k r _ (fun e => h (List.mem_cons_of_mem _ e)), atKey_put_other (fun e => h (by rw [e]; exact List.mem_cons_self))]
theorem ids_at (ids : List Int) (i : Int) (hk : WideAt.IsKeyLit (Lit.int .i64 i)) : (idsD ids).atKey (.int .i64 i) (.lit (.bool false)) = .lit (.bool (decide (i ∈ ids))) := by
  unfold idsD setOf
  by_cases h : i ∈ ids
  · rw [decide_eq_true h]
    exact atKey_in _ _ _ hk _ _ isMap_empty (.inl (List.mem_map.2 ⟨i, h, rfl⟩))
  · rw [decide_eq_false h, atKey_out _ _ _ _ _ (fun hm => h (by
      obtain ⟨j, hj, e⟩ := List.mem_map.1 hm
      injection e with _ e
      rwa [e] at hj))]
    rfl
theorem Try.zeroBool (w : World) : (zeroValue 4).run Try.prog w = .ok (.bool false) w := by kernel_rfl
theorem plainElem_bool_inv {P : Program} {e : TypeId} (he : P.underlying e = some .bool) {v : Value} {z : DataW Unit × List MemPlace} (h : plainElem P e v = some z) : ∃ x, v = .bool x ∧ z = (.lit (.bool x), []) := by
  unfold plainElem at h
  rw [he] at h
  cases v <;> simp at h
  exact ⟨_, rfl, h.symm⟩
theorem i64_wf {i : Int} (h : -9223372036854775808 ≤ i ∧ i ≤ 9223372036854775807) : (Lit.int .i64 i).wf = true := WalkArith.wf_i64 h
/-- the look-up, for the walk -/
theorem wp_lookup_ids (w : World) {ops : Array Oper} {rest : List Oper} {o : Oper} {a : Act} {Q : Exit → Act → World → Prop} (hg : o.guard = none) (m x : Operand) (hop : o.op = Op.lookup 131 m x false)
    (b n : Nat) (ids : List Int) (hm : a.eval m = .map (some b)) (hown : OwnsIds w b n ids) (i : Int) (hi : -9223372036854775808 ≤ i ∧ i ≤ 9223372036854775807) (hx : a.eval x = .int .i64 i) (B : Bool) (hB : decide (i ∈ ids) = B)
    (hK : wpList Try.prog ops Q rest (a.put o.dst (.bool B)) w) : wpList Try.prog ops Q (o :: rest) a w := by
  refine wpList_plain hg fun K' hK' => ?_
  have hkey : keyOf Try.prog 3 (.int .i64 i) = some (.int .i64 i) := keyOf_int_mk Try.underlying3 (i64_wf hi)
  obtain ⟨v, ps, hrun, hv⟩ := World.ownsMap.lookup hown (int_keyed Try.underlying3) Try.underlying131 (Try.zeroBool w) (plainElem_bool Try.underlying4 false) hkey
  obtain ⟨y, rfl, e⟩ := plainElem_bool_inv Try.underlying4 hv
  have hk := (int_keyed (P := Try.prog) Try.underlying3).key hkey
  have e1 := congrArg Prod.fst e
  simp only at e1
  rw [ids_at ids i hk, hB] at e1
  injection e1 with e1
  injection e1 with e1
  subst e1
  unfold Oper.wp
  simp [execOp, hop, hm, hx, hrun, Result.andThen]
  exact hK' _ _ hK
/-- the store, for the walk -/
theorem wp_store_ids (w : World) {ops : Array Oper} {rest : List Oper} {o : Oper} {a : Act} {Q : Exit → Act → World → Prop} (hg : o.guard = none) (m x v : Operand) (hop : o.op = Op.mapUpdate 131 m x v)
    (b n : Nat) (ids : List Int) (hm : a.eval m = .map (some b)) (hown : OwnsIds w b n ids) (hn : n ≤ 1000000) (i : Int) (hi : -9223372036854775808 ≤ i ∧ i ≤ 9223372036854775807) (hx : a.eval x = .int .i64 i) (hv : a.eval v = .bool true)
    (hK : ∀ w', OwnsIds w' b (n + 1) (ids ++ [i]) → (∀ B, B ≤ b → Below B w w') → (∀ k, k < w.heap.size → k ≠ b → w'.heap[k]? = w.heap[k]?) → wpList Try.prog ops Q rest (a.put o.dst undef) w') : wpList Try.prog ops Q (o :: rest) a w := by
  refine wpList_mapUpdate_own w hg m x v 131 hop 3 4 (int_keyed Try.underlying3) Try.underlying131 (plainElem Try.prog 4) b n (idsD ids) hm hown (by unfold maxLen; omega) (.int .i64 i) (.bool true) (.int .i64 i) hx hv (keyOf_int_mk Try.underlying3 (i64_wf hi)) (.lit (.bool true)) [] (plainElem_bool Try.underlying4 true) ?_
  intro w' h1 h2
  rw [ids_snoc] at h1
  have hlt := OwnsIds.lt hown
  exact hK w' h1 (fun B hB => (Below.refl B w).grown h2 (by omega) (fun k e => by cases e; exact hB)) (fun k hk hne => h2.block k hk (fun e => hne (Option.some.inj e)))

end Go.Proofs.Ytgccipmeiceonaa
