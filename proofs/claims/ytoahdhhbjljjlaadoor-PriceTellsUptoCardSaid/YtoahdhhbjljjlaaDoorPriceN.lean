/-
  What is shown is read; what is read is shown.
-/
import Derived.Test.YtoahdhhbjljjlaaDoorPriceM
namespace Go.Proofs.YtoahdhhbjljjlaaDoor
open Go.RowKit
set_option linter.unusedVariables false

theorem pre_one (b : UInt8) (l : List UInt8) : ([46] : List UInt8).isPrefixOf (b :: l) = (46 == b) := by simp [List.isPrefixOf]
theorem ix_at {wh rest : List UInt8} (h : ∀ c ∈ wh, c ≠ 46) : Lib.index (wh ++ 46 :: rest) [46] = (wh.length : Int) := by
  induction wh with
  | nil => rw [List.nil_append, Lib.index, pre_one]; rfl
  | cons a t ih =>
    have ha : a ≠ 46 := h a (by simp)
    have i := ih (fun c hc => h c (by simp [hc]))
    rw [List.cons_append, Lib.index, pre_one, beq_eq_false_iff_ne.2 (Ne.symm ha), i, if_neg (by simp), beq_eq_false_iff_ne.2 (by omega), if_neg (by simp)]
    simp
theorem ix_none {l : List UInt8} (h : ∀ c ∈ l, c ≠ 46) : Lib.index l [46] = -1 := by
  induction l with
  | nil => rfl
  | cons a t ih =>
    have ha : a ≠ 46 := h a (by simp)
    have i := ih (fun c hc => h c (by simp [hc]))
    rw [Lib.index, pre_one, beq_eq_false_iff_ne.2 (Ne.symm ha), i, if_neg (by simp)]
    rfl
theorem cut_at {wh rest : List UInt8} (h : ∀ c ∈ wh, c ≠ 46) : Lib.cut (wh ++ 46 :: rest) [46] = (wh, rest, true) := by
  unfold Lib.cut
  rw [ix_at h, if_pos (by omega)]
  simp
theorem cut_none {l : List UInt8} (h : ∀ c ∈ l, c ≠ 46) : Lib.cut l [46] = (l, [], false) := by
  unfold Lib.cut
  rw [ix_none h, if_neg (by omega)]
/-- a text is what stands before the point, the point, and what stands behind it -/
theorem cut_back (s : ByteArray) : s.data.toList = if ptB s = true then (whS s).data.toList ++ 46 :: (frS s).data.toList else (whS s).data.toList := by
  unfold ptB whS frS Lib.cut
  by_cases h : 0 ≤ Lib.index s.data.toList [46]
  · rw [if_pos h]
    rcases Lib.index_spec s.data.toList [46] with ⟨e, _⟩ | ⟨i, e, hi, ho, _⟩
    · omega
    · rw [e]
      simp only [if_true, Int.toNat_natCast, List.length_singleton]
      have := Lib.occAt_head (t := []) rfl ho
      show s.data.toList = s.data.toList.take i ++ 46 :: s.data.toList.drop (i + 1)
      have hlt : i < s.data.toList.length := (List.getElem?_eq_some_iff.1 this).1
      have hv : s.data.toList[i] = 46 := (List.getElem?_eq_some_iff.1 this).2
      rw [← hv, ← List.drop_eq_getElem_cons hlt, List.take_append_drop]
  · rw [if_neg h]; simp
theorem dig_ne {l : List UInt8} (h : l.all digB = true) : ∀ c ∈ l, c ≠ 46 := fun c hc e => by
  subst e
  have := List.all_eq_true.1 h 46 hc
  revert this; decide
theorem bytes_eq {a b : ByteArray} (h : a.data.toList = b.data.toList) : a = b := by
  obtain ⟨⟨l⟩⟩ := a
  obtain ⟨⟨m⟩⟩ := b
  simp at h
  subst h; rfl
theorem whole_list (s : ByteArray) : wholeB s = (decide (1 ≤ s.data.toList.length ∧ s.data.toList.length ≤ 9) && s.data.toList.all digB && lead s.data.toList) := by
  unfold wholeB adig lead; rw [size_list]
theorem frac_list (s : ByteArray) : fracB s = (decide (1 ≤ s.data.toList.length ∧ s.data.toList.length ≤ 4) && s.data.toList.all digB && !(s.data.toList.getLast? == some 48)) := by
  unfold fracB adig; rw [size_list]
theorem itS_whole {q : Int} (h0 : 0 ≤ q) (h1 : q < 1000000000) : wholeB (itS q) = true := by
  rw [whole_list, itS_list q h0, dec_all, dec_lead]
  have a := dec_pos q.toNat
  have b := dec_len (k := 8) (u := q.toNat) (by show q.toNat < 1000000000; omega)
  rw [decide_eq_true ⟨a, b⟩]; rfl
theorem all_app {l m : List UInt8} (h : (l ++ m).all digB = true) : l.all digB = true := by
  rw [List.all_append, Bool.and_eq_true] at h; exact h.1
theorem trim_four {r : Nat} (h0 : 1 ≤ r) (h1 : r < 10000) : ∃ k, four r = Lib.trimRightB (four r) 48 ++ List.replicate k 48 ∧ (Lib.trimRightB (four r) 48).getLast? ≠ some 48 ∧ (Lib.trimRightB (four r) 48).all digB = true ∧ 1 ≤ (Lib.trimRightB (four r) 48).length ∧ (Lib.trimRightB (four r) 48).length + k = 4 := by
  obtain ⟨k, e1, e2⟩ := trim_form (four r)
  have hl : (four r).length = 4 := rfl
  have hs := congrArg List.length e1
  rw [hl, List.length_append, List.length_replicate] at hs
  refine ⟨k, e1, e2, all_app (m := List.replicate k 48) (by rw [← e1]; exact four_all r), ?_, hs.symm⟩
  rcases Nat.eq_zero_or_pos (Lib.trimRightB (four r) 48).length with z | z
  · exfalso
    have z2 := List.eq_nil_of_length_eq_zero z
    rw [z2, List.nil_append] at e1
    have v := four_val h1
    rw [e1] at v
    have : ∀ k : Nat, valD (List.replicate k 48) = 0 := by
      intro k
      induction k with
      | zero => rfl
      | succ k ih => rw [List.replicate_succ', val_app, ih, val_one]; rfl
    rw [this] at v
    omega
  · exact z
theorem drop4 {k : Nat} (h : k ≤ 4) : ([48, 48, 48, 48] : List UInt8).drop (4 - k) = List.replicate k 48 := by
  rcases (show k = 0 ∨ k = 1 ∨ k = 2 ∨ k = 3 ∨ k = 4 by omega) with e | e | e | e | e <;> subst e <;> rfl

/-- WHAT IS SHOWN IS READ -/
theorem read_show' {p : Int} (p0 : 0 ≤ p) (p1 : p < 10000000000000) : rdB (shS p) = true ∧ rdV (shS p) = p := by
  have hq := itS_whole (q := p / 10000) (by omega) (by omega)
  have il := itS_list (p / 10000) (by omega)
  have ia := dec_all (p / 10000).toNat
  by_cases hz : p % 10000 = 0
  · have e : shS p = itS (p / 10000) := by unfold shS; rw [if_pos hz]
    have c : Lib.cut (shS p).data.toList [46] = ((itS (p / 10000)).data.toList, [], false) := by
      rw [e]; exact cut_none (by rw [il]; exact dig_ne ia)
    have w1 : whS (shS p) = itS (p / 10000) := by unfold whS; rw [c]
    have f1 : frS (shS p) = ⟨#[]⟩ := by unfold frS; rw [c]
    have b1 : ptB (shS p) = false := by unfold ptB; rw [c]
    refine ⟨by unfold rdB; rw [w1, b1, hq]; rfl, ?_⟩
    unfold rdV
    rw [numS_list, w1, f1, il]
    show ((valD (Lib.decDigits (p / 10000).toNat ++ [] ++ [48, 48, 48, 48]) : Nat) : Int) = p
    rw [List.append_nil, val_app, dec_val_of]
    have : valD [48, 48, 48, 48] = 0 := by decide
    rw [this]
    show (((p / 10000).toNat * 10 ^ 4 + 0 : Nat) : Int) = p
    have : (10 : Nat) ^ 4 = 10000 := by decide
    rw [this]; omega
  · have e : shS p = itS (p / 10000) ++ ⟨#[46]⟩ ++ plS p := by unfold shS; rw [if_neg hz]
    obtain ⟨k, t1, t2, t3, t4, t5⟩ := trim_four (r := (p % 10000).toNat) (by omega) (by omega)
    have pl := plS_list p0
    have el : (shS p).data.toList = (itS (p / 10000)).data.toList ++ 46 :: (plS p).data.toList := by
      rw [e, ByteArray.data_append, ByteArray.data_append, Array.toList_append, Array.toList_append]
      show _ ++ [46] ++ _ = _
      rw [List.append_assoc]; rfl
    have c : Lib.cut (shS p).data.toList [46] = ((itS (p / 10000)).data.toList, (plS p).data.toList, true) := by
      rw [el]; exact cut_at (by rw [il]; exact dig_ne ia)
    have w1 : whS (shS p) = itS (p / 10000) := by unfold whS; rw [c]
    have f1 : frS (shS p) = plS p := by unfold frS; rw [c]
    have b1 : ptB (shS p) = true := by unfold ptB; rw [c]
    rw [← pl] at t1 t2 t3 t4 t5
    have fr : fracB (plS p) = true := by
      rw [frac_list, t3, decide_eq_true (show 1 ≤ (plS p).data.toList.length ∧ (plS p).data.toList.length ≤ 4 by omega), beq_eq_false_iff_ne.2 t2]; rfl
    refine ⟨by unfold rdB; rw [w1, b1, f1, hq, fr]; rfl, ?_⟩
    unfold rdV
    rw [numS_list, w1, f1, il]
    have d4 := drop4 (k := k) (by omega)
    rw [show 4 - k = (plS p).size by rw [← size_list]; omega] at d4
    rw [d4, List.append_assoc, ← t1, val_app, dec_val_of, four_val (by omega)]
    show (((p / 10000).toNat * 10 ^ 4 + (p % 10000).toNat : Nat) : Int) = p
    have : (10 : Nat) ^ 4 = 10000 := by decide
    rw [this]; omega

theorem read_show {p : Int} (h : prcB p = true) : rdB (shS p) = true ∧ rdV (shS p) = p := by
  obtain ⟨p0, p1⟩ := prc_t h
  exact read_show' p0 (by omega)

/-- WHAT IS READ IS SHOWN JUST SO -/
theorem show_read {s : ByteArray} (h : rdB s = true) : shS (rdV s) = s := by
  obtain ⟨h1, hpt, f4, w9, a1, a2, a3⟩ := rd_t h
  have wl := h1
  rw [whole_list] at wl
  simp only [Bool.and_eq_true, decide_eq_true_eq] at wl
  obtain ⟨⟨⟨w0, _⟩, wa⟩, wd⟩ := wl
  have wne : (whS s).data.toList ≠ [] := fun e => by rw [e] at w0; simp at w0
  have back := dec_back wne wa wd
  obtain ⟨V, hV⟩ : ∃ V, valD (whS s).data.toList = V := ⟨_, rfl⟩
  rw [hV] at back
  have p4 : (10 : Nat) ^ 4 = 10000 := by decide
  have nl := numS_list s
  have cb := cut_back s
  -- the four places behind the point
  obtain ⟨R, hR⟩ : ∃ R, valD ((frS s).data.toList ++ [48, 48, 48, 48].drop (frS s).size) = R := ⟨_, rfl⟩
  have len4 : ((frS s).data.toList ++ [48, 48, 48, 48].drop (frS s).size).length = 4 := by
    rw [List.length_append, size_list, List.length_drop]; simp; omega
  rw [nl, List.append_assoc] at a2
  have all4 : ((frS s).data.toList ++ [48, 48, 48, 48].drop (frS s).size).all digB = true := by
    rw [List.all_append, Bool.and_eq_true] at a2; exact a2.2
  have R4 := val_lt all4
  rw [len4, hR, p4] at R4
  have rv : rdV s = ((V * 10000 + R : Nat) : Int) := by
    unfold rdV
    rw [nl, List.append_assoc, val_app, hV, hR, len4, p4]
  have four4 := four_of len4 all4
  rw [hR] at four4
  have q1 : (rdV s / 10000).toNat = V := by rw [rv]; omega
  have q2 : (rdV s % 10000).toNat = R := by rw [rv]; omega
  have q0 : 0 ≤ rdV s := by rw [rv]; omega
  have it : itS (rdV s / 10000) = whS s := bytes_eq (by rw [itS_list _ (by omega), q1, back])
  rcases hpt with ⟨b, z⟩ | ⟨b, fr⟩
  · rw [b, if_neg (by simp)] at cb
    have fe := frS_none b
    have hR0 : R = 0 := by rw [← hR, fe]; decide
    have hz : rdV s % 10000 = 0 := by omega
    unfold shS
    rw [if_pos hz, it]
    exact bytes_eq cb.symm
  · rw [b, if_pos rfl] at cb
    rw [frac_list] at fr
    simp only [Bool.and_eq_true, decide_eq_true_eq] at fr
    obtain ⟨⟨⟨f0, f1⟩, fa⟩, fl⟩ := fr
    have fl' : (frS s).data.toList.getLast? ≠ some 48 := by
      intro e; rw [e] at fl; simp at fl
    have d4 := drop4 (k := 4 - (frS s).size) (by omega)
    rw [show 4 - (4 - (frS s).size) = (frS s).size by omega] at d4
    rw [d4] at four4
    have tr := trim_back (k := 4 - (frS s).size) fl'
    have hz : ¬ rdV s % 10000 = 0 := by
      intro hz
      have R0 : R = 0 := by omega
      rw [R0] at four4
      have : four 0 = List.replicate 4 48 := by decide
      rw [← four4, this] at tr
      have t0 : Lib.trimRightB (List.replicate 4 48) 48 = [] := by decide
      rw [t0] at tr
      rw [← tr] at f0
      simp at f0
    have pl : plS (rdV s) = frS s := bytes_eq (by rw [plS_list q0, q2, four4, tr])
    unfold shS
    rw [if_neg hz, it, pl]
    refine bytes_eq ?_
    rw [ByteArray.data_append, ByteArray.data_append, Array.toList_append, Array.toList_append, cb]
    show _ ++ [46] ++ _ = _
    rw [List.append_assoc]; rfl

end Go.Proofs.YtoahdhhbjljjlaaDoor
