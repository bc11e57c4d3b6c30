/-
  Grid: with more money no less is done: a copy with more in it.
-/
import Derived.Test.YtbohdhiadgcljaaLawGM
namespace Go.Proofs.Ytbohdhiadgcljaa
open Go.RowKit
set_option linter.unusedVariables false

/-- append of a whole list to a slice of the call's own -/
theorem wp_appendR {ops : Array Oper} {rest : List Oper} {o : Oper} {a : Act} {Q : Exit → Act → World → Prop} (hgd : o.guard = none) (s x : Operand)
    (ho : o.op = .call { callee := .builtin .append, args := #[s, x], argTypes := #[22, 22] })
    (base : Nat) (v y : Value) (zs us : List Int) (w : World) (hs : a.eval s = v) (hown : Owns w base v zs) (hx : a.eval x = y) (hr : Reads w y us) (h0 : 0 < us.length)
    (hlen : zs.length + us.length ≤ 1000000) (hbase : base ≤ w.heap.size)
    (h : ∀ v' w', Owns w' base v' (zs ++ us) → Below base w w' → wpList Try.prog ops Q rest (a.put o.dst v') w') : wpList Try.prog ops Q (o :: rest) a w := by
  obtain ⟨i0, hi, hz0, hz1, hz2⟩ := info_parts Try.infoInt
  rcases hr.cell with ⟨rfl, _⟩ | ⟨_, b, off, cap, rfl, hc⟩
  · simp at h0
  refine wpList_append_own _ hgd s x 22 ho base 3 i0 (.int .i64 0) 1 8 Try.underlying22 hi hz0 hz1 hz2 rfl (by decide) v _ _ hs hown ⟨b, off, none⟩ us.length cap (us.map (Value.int .i64)) hx (by simp) ?_ ?_ ?_ ?_ ?_ ?_
  · intro j u hu
    have hj : j < us.length := by
      have := (List.getElem?_eq_some_iff.1 hu).1
      simpa using this
    rw [getD_map us j hj] at hu
    rw [Addr.add_lit, hc j hj]
    exact hu
  · intro u hu
    obtain ⟨z, _, rfl⟩ := List.mem_map.1 hu
    rfl
  · unfold maxLen; omega
  · omega
  · exact hbase
  · intro v' w' h1 h2 _
    refine h v' w' ?_ ?_
    · unfold Owns
      rw [List.length_append, List.map_append]
      exact h1
    · exact (Below.refl base w).grown h2 hbase hown.block_ge
theorem Owns.ownI {w : World} {base : Nat} {v : Value} {zs : List Int} (h : Owns w base v zs) (h0 : zs.length = 31) : ∃ g cap, v = .slice (some ⟨g, 0, none⟩) 31 cap ∧ 31 ≤ cap ∧ base ≤ g ∧ OwnI w g zs := by
  obtain ⟨h1, h2⟩ := h
  rw [h0] at h2
  rcases h2 with ⟨rfl, hz⟩ | ⟨k, cap, cur, rfl, hg, hh, hc1, hm, hs, ht⟩
  · omega
  · have hs' : 31 ≤ cur.size := by omega
    refine ⟨k, cap, rfl, hc1, hg, cur, hh, by omega, fun j hj => ?_⟩
    have e : (cur.toList.take (31 * 1))[j]? = some (.int .i64 (zs.getD j 0)) := by
      rw [ht]
      exact getD_map zs j hj
    rw [List.getElem?_take_of_lt (by omega), Array.getElem?_toList] at e
    exact e
theorem Owns.none_made (w : World) : Owns (w.alloc (.cells #[] 3)) w.heap.size (.slice (some ⟨w.heap.size, 0, none⟩) 0 0) [] :=
  World.ownsRow_made w #[] 0 (Nat.le_refl _) (Nat.zero_le _) (by simp)

/-- with more in it the error is one of two -/
theorem rich_err {has : List Int} {ps : List (Int × Int × Int)} (hg : gridE has ps = 0) (p : Nat) (n : Int) : gridE (has.set p n) ps = 0 ∨ gridE (has.set p n) ps = 3 ∨ gridE (has.set p n) ps = 8 := by
  obtain ⟨h31, -, h60, hdu, -⟩ := grid_0 hg
  have hn : netE ps = 0 := by unfold netE; rw [if_neg (by omega)]; exact due_mk hdu
  unfold gridE
  rw [List.length_set, if_neg (by omega)]
  split
  · rw [hn, if_neg (by simp)]
    split
    · exact .inl rfl
    · exact .inr (.inr rfl)
  · exact .inr (.inl rfl)
/-- what is done with less can be paid with more -/
theorem rich_pays {has : List Int} {ps : List (Int × Int × Int)} (hg : gridE has ps = 0) {p : Nat} (hp : p < 31) {more : Int} (hm : 0 ≤ more) {ds : List Nat} (hd : ∀ i ∈ ds, i < ps.length) (h : ∀ q, q < 31 → ¬ (settleF ps has ds).getD q 0 < 0) : ∀ q, q < 31 → ¬ (settleF ps (has.set p (has.getD p 0 + more)) ds).getD q 0 < 0 := by
  obtain ⟨h31, -, -, hdu, -⟩ := grid_0 hg
  intro q hq
  have h1 := h q hq
  rw [settle_at hdu ds hd has h31 q hq] at h1
  rw [settle_at hdu ds hd _ (by rw [List.length_set]; exact h31) q hq]
  have : (has.set p (has.getD p 0 + more)).getD q 0 = has.getD q 0 + (if p = q then more else 0) := by
    rw [List.getD_eq_getElem?_getD, List.getElem?_set]
    by_cases e : p = q
    · subst e; rw [if_pos rfl, if_pos (by omega), if_pos rfl]; rfl
    · rw [if_neg e, if_neg e, List.getD_eq_getElem?_getD]; omega
  rw [this]
  split <;> omega

theorem okD.up {n : Nat} {ds : List Nat} (h : okD n ds) : incN 0 ds := h.1
theorem okD.lt {n : Nat} {ds : List Nat} (h : okD n ds) : ∀ i ∈ ds, i < n := h.2
/-- what GridMore's walk knows when it comes to the loops -/
def Sub (ds cs : List Nat) : Prop := incN 0 ds ∧ incN 0 cs ∧ ∀ i ∈ ds, i ∈ cs
theorem Sub.at0 {ds cs : List Nat} (h : Sub ds cs) : ∀ j, 0 ≤ j → j < ds.length → ∃ t, 0 ≤ t ∧ t < cs.length ∧ cs.getD t 0 = ds.getD j 0 := by
  intro j _ hj
  obtain ⟨t, ht, e⟩ := mem_at (h.2.2 (ds.getD j 0) (by rw [List.getD_eq_getElem?_getD, List.getElem?_eq_getElem hj]; simp))
  exact ⟨t, Nat.zero_le _, ht, e⟩
theorem Sub.next {ds cs : List Nat} (h : Sub ds cs) {i t0 : Nat} (hi : i < ds.length) (ht : t0 < cs.length) (e : cs.getD t0 0 = ds.getD i 0) : ∀ j, i + 1 ≤ j → j < ds.length → ∃ t, t0 ≤ t ∧ t < cs.length ∧ cs.getD t 0 = ds.getD j 0 := by
  intro j h1 hj
  obtain ⟨t, _, h2, h3⟩ := h.at0 j (Nat.zero_le _) hj
  refine ⟨t, ?_, h2, h3⟩
  have h4 := incN_lt h.1 (show i < j by omega) hj
  apply Classical.byContradiction
  intro hc
  have := incN_lt h.2.1 (show t < t0 by omega) ht
  omega
theorem Sub.differ {ds cs : List Nat} (h : Sub ds cs) {k t0 : Nat} (hk : k < t0) (ht : t0 < cs.length) : cs.getD k 0 ≠ cs.getD t0 0 := by
  have := incN_lt h.2.1 hk ht; omega

set_option maxHeartbeats 4000000 in
theorem more_e3 (v vl : Value) (has : List Int) (ps : List (Int × Int × Int)) (p : Nat) (more : Int) (w : World) (hr : Reads w v has) (hp : ReadsP w vl ps) (hg : gridE has ps = 0) (hp31 : p < 31) (hm0 : 0 ≤ more) (hm1 : more ≤ 1152921504606846976) (hE : gridE (has.set p (has.getD p 0 + more)) ps = 3) :
    Calls Try.prog 6 #[v, vl, .int .i64 (p : Int), .int .i64 more] w fun e w' => e = .returned (.bool true) ∧ Kpt w w' := by
  have S1 := Lib.hid (solve_ok v vl has ps (firsts ps) w hr hp hg (firsts_range ps) kept_firsts)
  have HR := Lib.hid (fun w' (k : Kpt w w') => hr.kpt k)
  have HP := Lib.hid (fun w' (k : Kpt w w') => hp.kpt k)
  have RE := Lib.hid (fun v' w' (hr' : Reads w' v' (has.set p (has.getD p 0 + more))) (k : Kpt w w') => show Calls Try.prog 15 #[v', vl] w' fun e w'' => e = .returned (.tuple #[.slice none 0 0, .int .i64 3]) ∧ Kpt w' w'' from by
    have := solve_bad v' vl _ ps w' hr' (hp.kpt k) (by rw [hE]; decide)
    rwa [hE] at this)
  clear hE
  have RP := Lib.hid (fun ds hd h => rich_pays hg hp31 hm0 (ds := ds) hd h)
  obtain ⟨h31, hz, h60, -⟩ := grid_0 hg
  have H60 := Lib.hid h60; clear h60
  have hb := has_t (hz _ (getD_mem (show p < has.length by omega)))
  have H31 := Lib.hid h31
  obtain ⟨b, off, cap, rfl⟩ : ∃ b off cap, v = .slice (some ⟨b, off, none⟩) has.length cap := by
    rcases hr.cell with ⟨e, _⟩ | ⟨_, b, off, cap, e, _⟩
    · rw [e] at h31; simp at h31
    · exact ⟨b, off, cap, e⟩
  have HR' : Hid (∀ w', Kpt w w' → Reads w' (.slice (some ⟨b, off, none⟩) 31 cap) has) := by
    intro w' k
    have := HR.out w' k
    rwa [h31] at this
  rw [h31] at S1 ⊢
  obtain ⟨H, hH⟩ : ∃ H, H = has.getD p 0 := ⟨_, rfl⟩
  rw [← hH] at hb RE RP
  have HH := Lib.hid hH
  clear hr hp hg h31 hz HR hH
  have e1 : IntKind.i64.wrap (H + more) = H + more := by unfold IntKind.wrap; simp [IntKind.bits, IntKind.signed]; omega
  have y1 : decide ((p : Int) < 0) = false := decide_eq_false (by omega)
  have y2 : decide ((31 : Int) ≤ (p : Int)) = false := decide_eq_false (by omega)
  have y3 : decide (more < 0) = false := decide_eq_false (by omega)
  have xp : (p : Int) < 31 := by omega
  have y4 : decide (1152921504606846976 < more) = false := decide_eq_false (by omega)
  go_enter Try.func6, Try.ntmps6
  go_wp2_with (first
    | (go_at_call 15; (with_reducible refine S1.out.mono ?_); rintro e w1 ⟨ds, g1, m1, cap1, rfl, HD, HO, k1⟩; have K1 := Lib.hid k1.out; have HO1 := Lib.hid HO.out.2; clear k1)
    | (go_at_call 21; (with_reducible refine (gridBegun _).mono ?_); rintro e w2 ⟨rfl, k2⟩; have K2 := Lib.hid (ktr K1.out k2); have HO2 := Lib.hid (HO1.out.kpt k2); clear k2)
    | (at_builtin; refine wp_appendR rfl (.tmp 44) (.tmp 45) rfl w2.heap.size _ _ [] has _ rfl (Owns.none_made w2) rfl (HR'.out _ (K2.out.alloc _)) (by have := H31.out; omega) (by have := H31.out; simp; omega) (by rw [World.size_alloc]; omega) ?_; intro v3 w3 ho hb3; have ho : Owns w3 w2.heap.size v3 has := ho; obtain ⟨g3, cap3, rfl, hc3, hg3, ho3⟩ := Owns.ownI ho H31.out; have K3 := Lib.hid (ktr K2.out (((Kpt.refl w2).alloc _).trans hb3)); have HO3 := Lib.hid (HO2.out.kpt (((Kpt.refl w2).alloc _).trans hb3)); have HNE : Hid (g1 ≠ g3) := (by have := HO2.out.lt; unfold Hid; omega); have HG3 : Hid (w.heap.size ≤ g3) := Nat.le_trans K2.out.size hg3; have c3 : w3.cell? ⟨g3, p, none⟩ = some (.int .i64 H) := (by rw [HH.out]; exact ho3.cell (by rw [H31.out]; exact hp31)); have f3 := ho3.frozen p; have RI := Lib.hid (ho3.put p (H + more)); have K4 := Lib.hid (Kpt.setCell K3.out HG3.out (p := ⟨g3, p, none⟩) (.int .i64 (H + more))); have HO4 := Lib.hid (HO3.out.away (p := ⟨g3, p, none⟩) HNE.out (.int .i64 (H + more))); clear ho hb3 hg3 ho3)
    | (go_at_call 15; (with_reducible refine (RE.out _ _ (show Reads (w3.setCell ⟨g3, p, none⟩ (.int .i64 (H + more))) (.slice (some ⟨g3, 0, none⟩) 31 cap3) (has.set p (H + more)) from by have := RI.out.reads (by rw [List.length_set, H31.out]; unfold maxLen; omega) cap3; rwa [List.length_set, H31.out] at this) K4.out).mono ?_); rintro e w5 ⟨rfl, k5⟩; have K5 := Lib.hid (ktr K4.out k5); clear k5))
  go_ret
  exact ⟨rfl, K5.out⟩

set_option maxHeartbeats 4000000 in
theorem more_e8 (v vl : Value) (has : List Int) (ps : List (Int × Int × Int)) (p : Nat) (more : Int) (w : World) (hr : Reads w v has) (hp : ReadsP w vl ps) (hg : gridE has ps = 0) (hp31 : p < 31) (hm0 : 0 ≤ more) (hm1 : more ≤ 1152921504606846976) (hE : gridE (has.set p (has.getD p 0 + more)) ps = 8) :
    Calls Try.prog 6 #[v, vl, .int .i64 (p : Int), .int .i64 more] w fun e w' => e = .returned (.bool true) ∧ Kpt w w' := by
  have S1 := Lib.hid (solve_ok v vl has ps (firsts ps) w hr hp hg (firsts_range ps) kept_firsts)
  have HR := Lib.hid (fun w' (k : Kpt w w') => hr.kpt k)
  have HP := Lib.hid (fun w' (k : Kpt w w') => hp.kpt k)
  have RE := Lib.hid (fun v' w' (hr' : Reads w' v' (has.set p (has.getD p 0 + more))) (k : Kpt w w') => show Calls Try.prog 15 #[v', vl] w' fun e w'' => e = .returned (.tuple #[.slice none 0 0, .int .i64 8]) ∧ Kpt w' w'' from by
    have := solve_bad v' vl _ ps w' hr' (hp.kpt k) (by rw [hE]; decide)
    rwa [hE] at this)
  clear hE
  have RP := Lib.hid (fun ds hd h => rich_pays hg hp31 hm0 (ds := ds) hd h)
  obtain ⟨h31, hz, h60, -⟩ := grid_0 hg
  have H60 := Lib.hid h60; clear h60
  have hb := has_t (hz _ (getD_mem (show p < has.length by omega)))
  have H31 := Lib.hid h31
  obtain ⟨b, off, cap, rfl⟩ : ∃ b off cap, v = .slice (some ⟨b, off, none⟩) has.length cap := by
    rcases hr.cell with ⟨e, _⟩ | ⟨_, b, off, cap, e, _⟩
    · rw [e] at h31; simp at h31
    · exact ⟨b, off, cap, e⟩
  have HR' : Hid (∀ w', Kpt w w' → Reads w' (.slice (some ⟨b, off, none⟩) 31 cap) has) := by
    intro w' k
    have := HR.out w' k
    rwa [h31] at this
  rw [h31] at S1 ⊢
  obtain ⟨H, hH⟩ : ∃ H, H = has.getD p 0 := ⟨_, rfl⟩
  rw [← hH] at hb RE RP
  have HH := Lib.hid hH
  clear hr hp hg h31 hz HR hH
  have e1 : IntKind.i64.wrap (H + more) = H + more := by unfold IntKind.wrap; simp [IntKind.bits, IntKind.signed]; omega
  have y1 : decide ((p : Int) < 0) = false := decide_eq_false (by omega)
  have y2 : decide ((31 : Int) ≤ (p : Int)) = false := decide_eq_false (by omega)
  have y3 : decide (more < 0) = false := decide_eq_false (by omega)
  have xp : (p : Int) < 31 := by omega
  have y4 : decide (1152921504606846976 < more) = false := decide_eq_false (by omega)
  go_enter Try.func6, Try.ntmps6
  go_wp2_with (first
    | (go_at_call 15; (with_reducible refine S1.out.mono ?_); rintro e w1 ⟨ds, g1, m1, cap1, rfl, HD, HO, k1⟩; have K1 := Lib.hid k1.out; have HO1 := Lib.hid HO.out.2; clear k1)
    | (go_at_call 21; (with_reducible refine (gridBegun _).mono ?_); rintro e w2 ⟨rfl, k2⟩; have K2 := Lib.hid (ktr K1.out k2); have HO2 := Lib.hid (HO1.out.kpt k2); clear k2)
    | (at_builtin; refine wp_appendR rfl (.tmp 44) (.tmp 45) rfl w2.heap.size _ _ [] has _ rfl (Owns.none_made w2) rfl (HR'.out _ (K2.out.alloc _)) (by have := H31.out; omega) (by have := H31.out; simp; omega) (by rw [World.size_alloc]; omega) ?_; intro v3 w3 ho hb3; have ho : Owns w3 w2.heap.size v3 has := ho; obtain ⟨g3, cap3, rfl, hc3, hg3, ho3⟩ := Owns.ownI ho H31.out; have K3 := Lib.hid (ktr K2.out (((Kpt.refl w2).alloc _).trans hb3)); have HO3 := Lib.hid (HO2.out.kpt (((Kpt.refl w2).alloc _).trans hb3)); have HNE : Hid (g1 ≠ g3) := (by have := HO2.out.lt; unfold Hid; omega); have HG3 : Hid (w.heap.size ≤ g3) := Nat.le_trans K2.out.size hg3; have c3 : w3.cell? ⟨g3, p, none⟩ = some (.int .i64 H) := (by rw [HH.out]; exact ho3.cell (by rw [H31.out]; exact hp31)); have f3 := ho3.frozen p; have RI := Lib.hid (ho3.put p (H + more)); have K4 := Lib.hid (Kpt.setCell K3.out HG3.out (p := ⟨g3, p, none⟩) (.int .i64 (H + more))); have HO4 := Lib.hid (HO3.out.away (p := ⟨g3, p, none⟩) HNE.out (.int .i64 (H + more))); clear ho hb3 hg3 ho3)
    | (go_at_call 15; (with_reducible refine (RE.out _ _ (show Reads (w3.setCell ⟨g3, p, none⟩ (.int .i64 (H + more))) (.slice (some ⟨g3, 0, none⟩) 31 cap3) (has.set p (H + more)) from by have := RI.out.reads (by rw [List.length_set, H31.out]; unfold maxLen; omega) cap3; rwa [List.length_set, H31.out] at this) K4.out).mono ?_); rintro e w5 ⟨rfl, k5⟩; have K5 := Lib.hid (ktr K4.out k5); clear k5))
  go_ret
  exact ⟨rfl, K5.out⟩

set_option maxHeartbeats 4000000 in
theorem more_ok (v vl : Value) (has : List Int) (ps : List (Int × Int × Int)) (p : Nat) (more : Int) (w : World) (hr : Reads w v has) (hp : ReadsP w vl ps) (hg : gridE has ps = 0) (hp31 : p < 31) (hm0 : 0 ≤ more) (hm1 : more ≤ 1152921504606846976) (hE : gridE (has.set p (has.getD p 0 + more)) ps = 0) :
    Calls Try.prog 6 #[v, vl, .int .i64 (p : Int), .int .i64 more] w fun e w' => e = .returned (.bool true) ∧ Kpt w w' := by
  have S1 := Lib.hid (solve_ok v vl has ps (firsts ps) w hr hp hg (firsts_range ps) kept_firsts)
  have HR := Lib.hid (fun w' (k : Kpt w w') => hr.kpt k)
  have HP := Lib.hid (fun w' (k : Kpt w w') => hp.kpt k)
  have RE := Lib.hid (fun v' w' ds (hr' : Reads w' v' (has.set p (has.getD p 0 + more))) (k : Kpt w w') (hok : okD ps.length ds) (hf : firsts ps ds) (hn : ∀ q, q < 31 → ¬ (settleF ps (has.set p (has.getD p 0 + more)) ds).getD q 0 < 0) => solve_ok v' vl _ ps (fun cs => ∀ i ∈ ds, i ∈ cs) w' hr' (hp.kpt k) hE (fun i hi => List.mem_range.2 (hok.2 i hi)) (kept_max hE hok hf hn))
  clear hE
  have RP := Lib.hid (fun ds hd h => rich_pays hg hp31 hm0 (ds := ds) hd h)
  obtain ⟨h31, hz, h60, -⟩ := grid_0 hg
  have H60 := Lib.hid h60; clear h60
  have hb := has_t (hz _ (getD_mem (show p < has.length by omega)))
  have H31 := Lib.hid h31
  obtain ⟨b, off, cap, rfl⟩ : ∃ b off cap, v = .slice (some ⟨b, off, none⟩) has.length cap := by
    rcases hr.cell with ⟨e, _⟩ | ⟨_, b, off, cap, e, _⟩
    · rw [e] at h31; simp at h31
    · exact ⟨b, off, cap, e⟩
  have HR' : Hid (∀ w', Kpt w w' → Reads w' (.slice (some ⟨b, off, none⟩) 31 cap) has) := by
    intro w' k
    have := HR.out w' k
    rwa [h31] at this
  rw [h31] at S1 ⊢
  obtain ⟨H, hH⟩ : ∃ H, H = has.getD p 0 := ⟨_, rfl⟩
  rw [← hH] at hb RE RP
  have HH := Lib.hid hH
  clear hr hp hg h31 hz HR hH
  have e1 : IntKind.i64.wrap (H + more) = H + more := by unfold IntKind.wrap; simp [IntKind.bits, IntKind.signed]; omega
  have y1 : decide ((p : Int) < 0) = false := decide_eq_false (by omega)
  have y2 : decide ((31 : Int) ≤ (p : Int)) = false := decide_eq_false (by omega)
  have y3 : decide (more < 0) = false := decide_eq_false (by omega)
  have xp : (p : Int) < 31 := by omega
  have y4 : decide (1152921504606846976 < more) = false := decide_eq_false (by omega)
  go_enter Try.func6, Try.ntmps6
  go_wp2_with (first
    | (go_at_call 15; (with_reducible refine S1.out.mono ?_); rintro e w1 ⟨ds, g1, m1, cap1, rfl, HD, HO, k1⟩; have K1 := Lib.hid k1.out; have HO1 := Lib.hid HO.out.2; clear k1)
    | (go_at_call 21; (with_reducible refine (gridBegun _).mono ?_); rintro e w2 ⟨rfl, k2⟩; have K2 := Lib.hid (ktr K1.out k2); have HO2 := Lib.hid (HO1.out.kpt k2); clear k2)
    | (at_builtin; refine wp_appendR rfl (.tmp 44) (.tmp 45) rfl w2.heap.size _ _ [] has _ rfl (Owns.none_made w2) rfl (HR'.out _ (K2.out.alloc _)) (by have := H31.out; omega) (by have := H31.out; simp; omega) (by rw [World.size_alloc]; omega) ?_; intro v3 w3 ho hb3; have ho : Owns w3 w2.heap.size v3 has := ho; obtain ⟨g3, cap3, rfl, hc3, hg3, ho3⟩ := Owns.ownI ho H31.out; have K3 := Lib.hid (ktr K2.out (((Kpt.refl w2).alloc _).trans hb3)); have HO3 := Lib.hid (HO2.out.kpt (((Kpt.refl w2).alloc _).trans hb3)); have HNE : Hid (g1 ≠ g3) := (by have := HO2.out.lt; unfold Hid; omega); have HG3 : Hid (w.heap.size ≤ g3) := Nat.le_trans K2.out.size hg3; have c3 : w3.cell? ⟨g3, p, none⟩ = some (.int .i64 H) := (by rw [HH.out]; exact ho3.cell (by rw [H31.out]; exact hp31)); have f3 := ho3.frozen p; have RI := Lib.hid (ho3.put p (H + more)); have K4 := Lib.hid (Kpt.setCell K3.out HG3.out (p := ⟨g3, p, none⟩) (.int .i64 (H + more))); have HO4 := Lib.hid (HO3.out.away (p := ⟨g3, p, none⟩) HNE.out (.int .i64 (H + more))); clear ho hb3 hg3 ho3)
    | (go_at_call 15; (with_reducible refine (RE.out _ _ ds (show Reads (w3.setCell ⟨g3, p, none⟩ (.int .i64 (H + more))) (.slice (some ⟨g3, 0, none⟩) 31 cap3) (has.set p (H + more)) from by have := RI.out.reads (by rw [List.length_set, H31.out]; unfold maxLen; omega) cap3; rwa [List.length_set, H31.out] at this) K4.out HD.out.2.2.1 HD.out.2.1 (fun q hq => by have := RP.out ds HD.out.2.2.1.lt (fun q' hq' => by have := HD.out.2.2.2 q' hq'; omega) q hq; omega)).mono ?_); rintro e w5 ⟨cs, g5, m5, cap5, rfl, HC5, HO5, k5⟩; have K5 := Lib.hid (ktr K4.out k5.out); have HO6 := Lib.hid (HO4.out.kpt k5.out); clear k5))
  have HS : Hid (Sub ds cs) := ⟨HD.out.2.2.1.up, HC5.out.2.2.1.up, HC5.out.2.1⟩
  have HM1 : Hid (m1 = ds.length) := HD.out.1
  have HM5 : Hid (m5 = cs.length) := HC5.out.1
  have HO5 := Lib.hid HO5.out.2
  have L60 : Hid (cs.length ≤ 60) := by have := incN_len HC5.out.2.2.1.up HC5.out.2.2.1.lt (Nat.zero_le _); have := H60.out; unfold Hid; omega
  have hm60 : m1 ≤ 60 := by have := incN_len HD.out.2.2.1.up HD.out.2.2.1.lt (Nat.zero_le _); have := H60.out; have := HD.out.1; omega
  go_loopw [14, 15] (fun kk ii wr => ∃ k i : Nat, i ≤ m1 ∧ kk = .int .i64 (k : Int) ∧ ii = .int .i64 (i : Int) ∧ k ≤ 60 ∧ Hid (∀ j, i ≤ j → j < ds.length → ∃ t, k ≤ t ∧ t < cs.length ∧ cs.getD t 0 = ds.getD j 0) ∧ Hid (OwnI wr g1 (ints ds)) ∧ Hid (OwnI wr g5 (ints cs)) ∧ Hid (Kpt w wr)) (fun _ ii _ => m1 - (intOf ii).toNat)
  case atStart => exact ⟨0, 0, Nat.zero_le _, rfl, rfl, by omega, fun j h1 h2 => HS.out.at0 j h1 h2, HO6.out, HO5.out, K5.out⟩
  case round =>
    obtain ⟨k, i, hi, rfl, rfl, hk60, HT, HA, HB, HK⟩ := hrel
    by_cases hlt : i < m1
    · obtain ⟨t0, ht0, ht1, hte⟩ := HT.out i (Nat.le_refl _) (by rw [← HM1.out]; exact hlt)
      have ht5 : t0 < m5 := by rw [HM5.out]; exact ht1
      have ht60 : t0 < 60 := by have := L60.out; have := HM5.out; omega
      have HNX := Lib.hid (HS.out.next (by rw [← HM1.out]; exact hlt) ht1 hte)
      have HTE := Lib.hid hte
      have HT1 := Lib.hid ht1
      clear hte HT ht1
      go_wp2
      go_loopw [14] (fun kk wr => ∃ k : Nat, k ≤ t0 ∧ kk = .int .i64 (k : Int) ∧ Hid (OwnI wr g1 (ints ds)) ∧ Hid (OwnI wr g5 (ints cs)) ∧ Hid (Kpt w wr)) (fun kk _ => t0 - (intOf kk).toNat)
      case atStart => exact ⟨k, ht0, rfl, HA.out, HB.out, HK.out⟩
      case round =>
        obtain ⟨k', hk', rfl, HA2, HB2, HK2⟩ := hrel
        have c1 := HA2.out.cell (j := i) (by rw [ints_len, ← HM1.out]; exact hlt)
        have c5 := HB2.out.cell (j := k') (by rw [ints_len, ← HM5.out]; omega)
        rw [cast_at] at c1 c5
        by_cases he : k' = t0
        · have HE : Hid (k' = t0) := he
          have hv : ((cs.getD k' 0 : Nat) : Int) = ((ds.getD i 0 : Nat) : Int) := by rw [he, HTE.out]
          clear he
          rw [hv] at c5
          clear hv
          generalize ((ds.getD i 0 : Nat) : Int) = z at c1 c5
          have z1 : (z != z) = false := by simp
          have kl : (k' : Int) < (m5 : Int) := by omega
          have kg : decide ((m5 : Int) ≤ (k' : Int)) = false := decide_eq_false (by omega)
          have kt : decide ((k' : Int) < (m5 : Int)) = true := decide_eq_true kl
          go_wp2
          go_quiet (fail)
          go_wp2
          go_roundw
          case rel => exact ⟨k', i + 1, by omega, rfl, by go_num, by omega, fun j h1 h2 => by rw [HE.out]; exact HNX.out j h1 h2, HA2.out.kpt ((Kpt.refl _).drewN _), HB2.out.kpt ((Kpt.refl _).drewN _), HK2.out.drewN _⟩
          case measure => simp [intOf]; omega
        · have hd := HS.out.differ (show k' < t0 by omega) HT1.out
          rw [HTE.out] at hd
          generalize cs.getD k' 0 = x at c5 hd
          generalize ds.getD i 0 = y at c1 hd
          have z1 : ((x : Int) != (y : Int)) = true := bne_iff_ne.2 (by omega)
          have z2 : ((x : Int) == (y : Int)) = false := beq_eq_false_iff_ne.2 (by omega)
          have kl : (k' : Int) < (m5 : Int) := by omega
          have kt : decide ((k' : Int) < (m5 : Int)) = true := decide_eq_true kl
          clear hd
          go_wp2
          go_quiet (fail)
          go_wp2
          go_roundw
          case rel => exact ⟨k' + 1, by omega, by go_num, HA2.out.kpt ((Kpt.refl _).drewN _), HB2.out.kpt ((Kpt.refl _).drewN _), HK2.out.drewN _⟩
          case measure => simp [intOf]; omega
    · go_wp2
      go_ret
      exact ⟨rfl, HK.out⟩

theorem gridMore_walk (v vl : Value) (p more : Int) (has : List Int) (ps : List (Int × Int × Int)) (w : World) (hr : Reads w v has) (hp : ReadsP w vl ps) :
    Calls Try.prog 6 #[v, vl, .int .i64 p, .int .i64 more] w fun e w' => e = .returned (.bool true) ∧ Kpt w w' := by
  by_cases hg : gridE has ps = 0
  · by_cases hx : p < 0 ∨ 31 ≤ p ∨ more < 0 ∨ 1152921504606846976 < more
    · exact more_out v vl has ps p more w hr hp hg hx
    · obtain ⟨q, rfl⟩ : ∃ q : Nat, p = (q : Int) := ⟨p.toNat, by omega⟩
      rcases rich_err hg q (has.getD q 0 + more) with h | h | h
      · exact more_ok v vl has ps q more w hr hp hg (by omega) (by omega) (by omega) h
      · exact more_e3 v vl has ps q more w hr hp hg (by omega) (by omega) (by omega) h
      · exact more_e8 v vl has ps q more w hr hp hg (by omega) (by omega) (by omega) h
  · exact more_bad v vl has ps p more w hr hp hg

end Go.Proofs.Ytbohdhiadgcljaa
