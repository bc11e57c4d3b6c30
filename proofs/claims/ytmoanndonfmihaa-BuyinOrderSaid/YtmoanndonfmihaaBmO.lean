/-
  Merged: LawBOm, OfrApp, LawBO.
-/
import Derived.Test.YtmoanndonfmihaaBmc
import Derived.Test.YtmoanndonfmihaaTrip
import Derived.Test.YtmoanndonfmihaaOwn
import Derived.Laws.AppendOwnNone
import Derived.Test.YtmoanndonfmihaaBools
import Derived.BigQuiet
-- LawBOm
namespace Go.Proofs.Ytmoanndonfmihaa
open Go.RowKit
set_option linter.unusedVariables false

theorem ofE_ok {l : List (Int × Int × Int)} {s : Nat → Bool} : ofE s l = 0 ↔ (∀ p ∈ l, offB p = true) ∧ (l.map (·.1)).Nodup ∧ ∀ p ∈ l, s p.1.toNat = false := by
  induction l generalizing s with
  | nil => simp [ofE]
  | cons p l ih =>
    unfold ofE
    rw [List.map_cons, List.nodup_cons]
    by_cases h1 : offB p = true
    · rw [if_pos h1]
      have b := off_t h1
      by_cases h2 : s p.1.toNat = true
      · rw [if_pos h2]
        constructor
        · intro h; omega
        · intro h; have := h.2.2 p (by simp); rw [h2] at this; cases this
      · rw [if_neg h2, ih]
        have h2' : s p.1.toNat = false := by simpa using h2
        constructor
        · rintro ⟨a, c, d⟩
          refine ⟨fun q hq => ?_, ⟨fun hm => ?_, c⟩, fun q hq => ?_⟩
          · rcases List.mem_cons.1 hq with rfl | hq
            · exact h1
            · exact a q hq
          · obtain ⟨q, hq, e⟩ := List.mem_map.1 hm
            have := d q hq
            unfold seenU at this
            rw [e, if_pos rfl] at this; cases this
          · rcases List.mem_cons.1 hq with rfl | hq
            · exact h2'
            · have := d q hq
              unfold seenU at this
              split at this
              · cases this
              · exact this
        · rintro ⟨a, ⟨c1, c2⟩, d⟩
          refine ⟨fun q hq => a q (by simp [hq]), c2, fun q hq => ?_⟩
          unfold seenU
          rw [if_neg]
          · exact d q (by simp [hq])
          · intro e
            have bq := off_t (a q (by simp [hq]))
            exact c1 (List.mem_map.2 ⟨q, hq, by omega⟩)
    · rw [if_neg h1]
      constructor
      · intro h; omega
      · intro h; exact absurd (h.1 p (by simp)) h1
theorem loan_rev {ps : List (Int × Int × Int)} (h : loanE ps = 0) : loanE ps.reverse = 0 := by
  unfold loanE at h ⊢
  rw [List.length_reverse]
  split at h
  · cases h
  · next h4 =>
    rw [if_neg h4]
    obtain ⟨a, b, c⟩ := ofE_ok.1 h
    refine ofE_ok.2 ⟨fun p hp => a p (List.mem_reverse.1 hp), ?_, fun p hp => c p (List.mem_reverse.1 hp)⟩
    rw [List.map_reverse]
    exact (List.reverse_perm _).nodup_iff.2 b
/-- the order's key of an offer -/
def kyT (p : Int × Int × Int) : Int := p.2.2 * 2147483648 - p.2.1
theorem kyT_eq {p q : Int × Int × Int} (hp : offB p = true) (hq : offB q = true) (h : kyT p = kyT q) : p.2.2 = q.2.2 ∧ p.2.1 = q.2.1 := by
  have a := off_t hp
  have b := off_t hq
  unfold kyT at h
  omega
theorem kyT_le {p q : Int × Int × Int} (hp : offB p = true) (hq : offB q = true) (h : kyT p ≤ kyT q) : p.2.2 ≤ q.2.2 := by
  have a := off_t hp
  have b := off_t hq
  unfold kyT at h
  omega
theorem keyB_is (ps : List (Int × Int × Int)) (o : Int) : keyB ps o = kyT (ps.getD o.toNat default) := rfl
theorem bo_mem {ps : List (Int × Int × Int)} {j : Nat} (hj : j < (ordB ps).length) : 0 ≤ (ordB ps).getD j 0 ∧ (ordB ps).getD j 0 < ps.length ∧ ps.getD ((ordB ps).getD j 0).toNat default ∈ ps := by
  have b := (ordB_is ps).bd hj
  exact ⟨b.1, b.2, getP_mem (by omega)⟩
theorem bo_at {ps : List (Int × Int × Int)} {i j : Nat} (hij : i < j) (hj : j < (ordB ps).length) : lxK (keyB ps) ((ordB ps).getD i 0) ((ordB ps).getD j 0) := by
  have := List.pairwise_iff_getElem.1 (ordB_is ps).sorted i j (by omega) hj hij
  rw [List.getD_eq_getElem?_getD, List.getD_eq_getElem?_getD, List.getElem?_eq_getElem hj, List.getElem?_eq_getElem (show i < (ordB ps).length by omega)]
  exact this
theorem bo_price {ps : List (Int × Int × Int)} (hall : ∀ p ∈ ps, offB p = true) {k : Nat} (hk : k + 1 < (ordB ps).length) : (ps.getD ((ordB ps).getD k 0).toNat default).2.2 ≤ (ps.getD ((ordB ps).getD (k + 1) 0).toNat default).2.2 := by
  have h := bo_at (ps := ps) (show k < k + 1 by omega) hk
  refine kyT_le (hall _ (bo_mem (by omega)).2.2) (hall _ (bo_mem hk).2.2) ?_
  rw [← keyB_is, ← keyB_is]
  unfold lxK at h
  omega
theorem bo_min {ps : List (Int × Int × Int)} (h0 : 0 < ps.length) {p : Int × Int × Int} (hp : p ∈ ps) : kyT (ps.getD ((ordB ps).getD 0 0).toNat default) ≤ kyT p := by
  obtain ⟨j, hj, rfl⟩ := List.mem_iff_getElem.1 hp
  have od := ordB_is ps
  have hm : (j : Int) ∈ ordB ps := od.mem.2 ⟨by omega, by omega⟩
  obtain ⟨i, hi, e⟩ := List.mem_iff_getElem.1 hm
  have e1 : (ordB ps).getD i 0 = (j : Int) := by rw [List.getD_eq_getElem?_getD, List.getElem?_eq_getElem hi]; exact e
  have e2 : ps.getD ((j : Int)).toNat default = ps[j] := by rw [Int.toNat_natCast, List.getD_eq_getElem?_getD, List.getElem?_eq_getElem hj]; rfl
  rcases Nat.eq_zero_or_pos i with h | h
  · subst h; rw [e1, e2]; exact Int.le_refl _
  · have l := bo_at (ps := ps) h hi
    rw [e1] at l
    unfold lxK at l
    rw [keyB_is, keyB_is, e2] at l
    omega
theorem bo_first {ps : List (Int × Int × Int)} (h0 : 0 < ps.length) (hall : ∀ p ∈ ps, offB p = true) :
    (ps.getD ((ordB ps).getD 0 0).toNat default).2.2 = (ps.reverse.getD ((ordB ps.reverse).getD 0 0).toNat default).2.2 ∧ (ps.getD ((ordB ps).getD 0 0).toNat default).2.1 = (ps.reverse.getD ((ordB ps.reverse).getD 0 0).toNat default).2.1 := by
  have hl := (ordB_is ps).len
  have hl2 := (ordB_is ps.reverse).len
  have hr0 : 0 < ps.reverse.length := by rw [List.length_reverse]; exact h0
  have m1 := (bo_mem (ps := ps) (j := 0) (by omega)).2.2
  have m2 := (bo_mem (ps := ps.reverse) (j := 0) (by omega)).2.2
  have m2' := List.mem_reverse.1 m2
  refine kyT_eq (hall _ m1) (hall _ m2') (Int.le_antisymm (bo_min h0 m2') (bo_min hr0 (List.mem_reverse.2 m1)))
/-- which places have been -/
def bnB (os : List Int) (k : Nat) (j : Nat) : Bool := decide ((j : Int) ∈ os.take k)
theorem bnB_0 (os : List Int) (j : Nat) : bnB os 0 j = false := by unfold bnB; simp
theorem bnB_no {os : List Int} (hn : os.Nodup) {k : Nat} (hk : k < os.length) (h0 : 0 ≤ os.getD k 0) : bnB os k (os.getD k 0).toNat = false := by
  unfold bnB
  refine decide_eq_false fun h => ?_
  have e : ((os.getD k 0).toNat : Int) = os[k] := by
    rw [List.getD_eq_getElem?_getD, List.getElem?_eq_getElem hk] at h0 ⊢
    simp only [Option.getD_some] at h0 ⊢
    omega
  rw [e] at h
  obtain ⟨i, hi, e2⟩ := List.mem_iff_getElem.1 h
  rw [List.length_take] at hi
  rw [List.getElem_take] at e2
  have := List.pairwise_iff_getElem.1 (List.nodup_iff_pairwise_ne.1 hn) i k (by omega) hk (by omega)
  exact this e2
theorem bnB_s {os : List Int} {k : Nat} (hk : k < os.length) (h0 : 0 ≤ os.getD k 0) (j : Nat) : bnB os (k + 1) j = if j = (os.getD k 0).toNat then true else bnB os k j := by
  unfold bnB
  rw [List.take_succ_eq_append_getElem hk]
  have e : os[k] = os.getD k 0 := by rw [List.getD_eq_getElem?_getD, List.getElem?_eq_getElem hk]; rfl
  rw [e]
  by_cases hj : j = (os.getD k 0).toNat
  · rw [if_pos hj]
    refine decide_eq_true ?_
    rw [List.mem_append]
    right
    rw [List.mem_singleton]
    omega
  · rw [if_neg hj]
    congr 1
    rw [List.mem_append, List.mem_singleton]
    refine propext ⟨fun h => h.resolve_right (by omega), .inl⟩
theorem rev_s {ps : List (Int × Int × Int)} {k : Nat} (hk : k < ps.length) : ps.reverse.take (k + 1) = ps.reverse.take k ++ [ps.getD (ps.length - 1 - k) default] := by
  rw [List.take_succ_eq_append_getElem (by rw [List.length_reverse]; exact hk), List.getElem_reverse, List.getD_eq_getElem?_getD, List.getElem?_eq_getElem (by omega)]
  rfl

end Go.Proofs.Ytmoanndonfmihaa

-- OfrApp
namespace Go.Proofs.Ytmoanndonfmihaa
open Go.RowKit
set_option linter.unusedVariables false

theorem Try.infoOfr : (Try.prog.info? 52).map (fun i => (i.zero, i.size, i.bytes)) = some (some (.agg #[.int .i64 0, .int .i64 0, .int .i64 0]), 3, 24) := by kernel_rfl
theorem wp_appendO {ops : Array Oper} {rest : List Oper} {o : Oper} {a : Act} {Q : Exit → Act → World → Prop} (hgd : o.guard = none) (s x : Operand)
    (ho : o.op = .call { callee := .builtin .append, args := #[s, x], argTypes := #[47, 47] })
    (base : Nat) (v u : Value) (ps qs : List (Int × Int × Int)) (w : World) (hs : a.eval s = v) (hown : OwnsT 52 w base v ps) (hx : a.eval x = u) (hr : ReadsP w u qs)
    (hlen : ps.length + qs.length ≤ 100000) (hbase : base ≤ w.heap.size)
    (h : ∀ v' w', OwnsT 52 w' base v' (ps ++ qs) → Below base w w' → wpList Try.prog ops Q rest (a.put o.dst v') w') : wpList Try.prog ops Q (o :: rest) a w := by
  obtain ⟨i0, hi, hz0, hz1, hz2⟩ := info_parts Try.infoOfr
  obtain ⟨ad, cap, rfl, hn, hm, hb, hc⟩ := hr
  cases ad with
  | none =>
    obtain rfl := hn rfl
    have h0 : qs = [] := by
      cases qs with
      | nil => rfl
      | cons q l => obtain ⟨b, off, e, _⟩ := hc 0 (by simp); cases e
    subst h0
    refine wpList_append_own_none hgd s x 47 ho base 52 i0 3 Try.underlying47 hi v _ _ hs hown hx ?_
    exact h v w (by rw [List.append_nil]; exact hown) (Below.refl _ _)
  | some ad =>
    refine wpList_append_own _ hgd s x 47 ho base 52 i0 _ 3 24 Try.underlying47 hi hz0 hz1 hz2 rfl (by decide) v _ _ hs hown ad qs.length cap (flatP qs) hx (flatP_len qs) ?_ (flatP_one qs) ?_ ?_ hbase ?_
    · intro j u hu
      have hj : j < qs.length * 3 := by
        have := (List.getElem?_eq_some_iff.1 hu).1
        rwa [flatP_len] at this
      obtain ⟨q, r, hr, rfl⟩ : ∃ q r, r < 3 ∧ j = q * 3 + r := ⟨j / 3, j % 3, by omega, by omega⟩
      have hq : q < qs.length := by omega
      obtain ⟨b, off, e, h1, h2, h3⟩ := hc q hq
      have e' := Option.some.inj e
      clear hb
      subst e'
      obtain ⟨e0, e1, e2⟩ := flatP_at qs q hq
      have ea : (⟨b, off, none⟩ : Addr).add (q * 3 + r) = ⟨b, off + q * 3 + r, none⟩ := by simp [Addr.add, Nat.add_assoc]
      rw [ea]
      rcases (show r = 0 ∨ r = 1 ∨ r = 2 by omega) with rfl | rfl | rfl
      · rw [Nat.add_zero] at hu ⊢; rw [e0] at hu; rw [← hu]; exact h1
      · rw [e1] at hu; rw [← hu]; exact h2
      · rw [e2] at hu; rw [← hu]; exact h3
    · unfold maxLen; omega
    · omega
    · intro v' w' h1 h2 _
      refine h v' w' ?_ ((Below.refl base w).grown h2 hbase hown.ge)
      unfold OwnsT
      rw [List.length_append, flatP_append]
      exact h1
theorem readsO_one {w : World} {P U C : Int} (hb : InP [(P, U, C)]) : ReadsP (w.alloc (.cells #[.int .i64 P, .int .i64 U, .int .i64 C] 52)) (.slice (some ⟨w.heap.size, 0, none⟩) 1 1) [(P, U, C)] := by
  have B := Blk.made w #[.int .i64 P, .int .i64 U, .int .i64 C] 52
  refine ⟨_, 1, rfl, (fun e => by cases e), by unfold maxLen; simp, hb, fun j hj => ⟨w.heap.size, 0, rfl, ?_⟩⟩
  obtain rfl : j = 0 := by simp at hj; exact hj
  exact ⟨B.cell 0, B.cell 1, B.cell 2⟩

end Go.Proofs.Ytmoanndonfmihaa

-- LawBO
namespace Go.Proofs.Ytmoanndonfmihaa
open Go.RowKit
set_option linter.unusedVariables false

theorem border_no (v : Value) (ps : List (Int × Int × Int)) (w : World) (hr : ReadsP w v ps) (hE : loanE ps ≠ 0) :
    Calls Try.prog 6 #[v] w fun e w' => e = .returned (.bool true) ∧ Kpt w w' := by
  have C := Lib.hid (order_bad v ps w hr hE)
  have z : (loanE ps != 0) = true := bne_iff_ne.2 hE
  clear hE hr
  generalize loanE ps = E at *
  go_enter Try.func6, Try.ntmps6
  go_wp2_with (first
    | (go_at_call 16; (with_reducible refine C.out.mono ?_); rintro e w1 ⟨rfl, k1⟩; have K1 := Lib.hid k1; clear k1)
    | (go_at_call 17; (with_reducible refine (buyinBegun _).mono ?_); rintro e w2 ⟨rfl, k1⟩; have K2 := Lib.hid (ktr K1.out k1); clear k1))
  go_ret
  exact ⟨rfl, K2.out⟩
set_option maxRecDepth 100000 in
set_option maxHeartbeats 4000000 in
theorem border_ok (b off cap : Nat) (ps : List (Int × Int × Int)) (w : World) (hr : ReadsP w (.slice (some ⟨b, off, none⟩) ps.length cap) ps) (hc : ∀ j, j < ps.length → PtAt w b (off + j * 3) (ps.getD j default)) (h0 : 0 < ps.length) (hE : loanE ps = 0) :
    Calls Try.prog 6 #[.slice (some ⟨b, off, none⟩) ps.length cap] w fun e w' => e = .returned (.bool true) ∧ Kpt w w' := by
  obtain ⟨h40, hall⟩ := loan_0 hE
  have C := Lib.hid (order_ok _ cap ps w hr hE)
  have C20 := fun a c w' (r : ReadsP w' (.slice a ps.reverse.length c) ps.reverse) => order_ok a c ps.reverse w' r (loan_rev hE)
  rw [List.length_reverse] at C20
  have C2 := Lib.hid C20
  clear C20
  have HC := Lib.hid hc
  have HOL := Lib.hid (ordB_is ps).len
  have HBD := Lib.hid (fun j (hj : j < (ordB ps).length) => (⟨(bo_mem (ps := ps) hj).1, (bo_mem (ps := ps) hj).2.1⟩ : 0 ≤ (ordB ps).getD j 0 ∧ (ordB ps).getD j 0 < ps.length))
  have HPR := Lib.hid (fun k (hk : k + 1 < (ordB ps).length) => bo_price hall hk)
  have HNO := Lib.hid (fun k (hk : k < (ordB ps).length) h => bnB_no (ordB_is ps).nodup hk h)
  have HNS := Lib.hid (fun k (hk : k < (ordB ps).length) h j => bnB_s (os := ordB ps) hk h j)
  have HFI := Lib.hid (bo_first h0 hall)
  have HRV := Lib.hid (fun k (hk : k < ps.length) => rev_s hk)
  have HRL := Lib.hid (show ps.reverse.length = ps.length from List.length_reverse)
  have HIP := Lib.hid (show ∀ p ∈ ps, InP [p] from fun p hp q hq => by rw [List.mem_singleton.1 hq]; have := off_t (hall p hp); omega)
  have HIR := Lib.hid (show InP ps.reverse from fun p hp => by have := off_t (hall p (List.mem_reverse.1 hp)); omega)
  have HOR := Lib.hid (ordB_is ps.reverse).len
  have HBR := Lib.hid (fun j (hj : j < (ordB ps.reverse).length) => (⟨(bo_mem (ps := ps.reverse) hj).1, (bo_mem (ps := ps.reverse) hj).2.1⟩ : 0 ≤ (ordB ps.reverse).getD j 0 ∧ (ordB ps.reverse).getD j 0 < ps.reverse.length))
  have HMM := Lib.hid (fun k (hk : k < ps.length) => (getP_mem hk : ps.getD k default ∈ ps))
  obtain ⟨n, hn⟩ : ∃ n, n = ps.length := ⟨_, rfl⟩
  rw [← hn] at C C2 HC h40 h0 HOL HBD HRV HRL HMM ⊢
  have HN := Lib.hid hn
  clear hc hr hE hall hn
  have H40 := Lib.hid h40
  have MK := Lib.hid (fun w' => run_falses w' n (by omega))
  have n1 : ((n : Int) == 0) = false := beq_eq_false_iff_ne.2 (by omega)
  have n2 : 0 ≤ (n : Int) := by omega
  go_enter Try.func6, Try.ntmps6
  go_wp2_with (first
    | (go_at_call 16; (with_reducible refine C.out.mono ?_); rintro e w1 ⟨O, rfl, hO, r1, k1⟩; have K1 := Lib.hid k1; have R1 := Lib.hid r1; clear k1 r1 hO)
    | (go_at_call 17; (with_reducible refine (buyinBegun _).mono ?_); rintro e w2 ⟨rfl, k1⟩; have K2 := Lib.hid (ktr K1.out k1); have R2 : Hid (Row w2 O (ordB ps)) := Lib.hid (Row.below R1.out k1 R1.out.lt); have MK2 := MK.out w2; clear k1))
  have HLO : Hid (O < w2.heap.size) := R2.out.lt
  clear MK2
  go_loopw [6] (fun ii wr => ∃ k : Nat, k ≤ n ∧ ii = .int .i64 (k : Int) ∧ Hid (OwnB wr w2.heap.size n (bnB (ordB ps) k)) ∧ Hid (Kpt w2 wr)) (fun ii _ => n - (intOf ii).toNat)
  case atStart => exact ⟨0, Nat.zero_le _, rfl, (OwnB.made w2 n).to (fun j hj => (bnB_0 _ j).symm), (Kpt.refl w2).alloc _⟩
  case round =>
    obtain ⟨k, hk, rfl, HB, HK⟩ := hrel
    by_cases hlt : k < n
    · have hol := HOL.out
      have o0 : wr.cell? ⟨O, k, none⟩ = some (.int .i64 ((ordB ps).getD k 0)) := HK.out.cell (R2.out.cell (by omega))
      have hbd := HBD.out k (by omega)
      have hno := HNO.out k (by omega) hbd.1
      have hns := HNS.out k (by omega) hbd.1
      obtain ⟨q, hq⟩ : ∃ q : Nat, (ordB ps).getD k 0 = (q : Int) := ⟨((ordB ps).getD k 0).toNat, by omega⟩
      rw [hq] at o0 hbd hno hns
      simp only [Int.toNat_natCast] at hno hns
      have hqn : q < n := by omega
      have s0 := HB.out.cell hqn
      rw [hno] at s0
      have f0 := HB.out.frozen q
      obtain ⟨p0, p1, p2⟩ := ((HC.out q hqn).kpt K2.out).kpt HK.out
      have q0 : (0 : Int) ≤ (q : Int) := by omega
      have q1 : (q : Int) < (n : Int) := by omega
      have q2 : decide ((q : Int) < 0) = false := decide_eq_false (by omega)
      have q3 : decide ((n : Int) ≤ (q : Int)) = false := decide_eq_false (by omega)
      have HS := Lib.hid (HB.out.put (q := bnB (ordB ps) (k + 1)) q true (fun j hj => by rw [hns j]))
      have KS : Hid (Kpt w2 (wr.setCell ⟨w2.heap.size, q, none⟩ (.bool true))) := HK.out.setCell (Nat.le_refl _) _
      have OO : Hid (O < w2.heap.size) := HLO
      have HHQ := Lib.hid hq
      clear hno hns hbd hq
      generalize ps.getD q default = pp at p0 p1 p2
      have LC : Hid (∀ x, x < n → PtAt (wr.setCell ⟨w2.heap.size, q, none⟩ (.bool true)) b (off + x * 3) (ps.getD x default)) := fun x hx => ((HC.out x hx).kpt K2.out).kpt KS.out
      have OC : Hid (∀ x, x < n → (wr.setCell ⟨w2.heap.size, q, none⟩ (.bool true)).cell? ⟨O, x, none⟩ = some (.int .i64 ((ordB ps).getD x 0))) := fun x hx => KS.out.cell (R2.out.cell (by have := HOL.out; omega))
      go_upto_region 13 with fail
      have LQ := LC.out q hqn
      have OQ := OC.out k hlt
      rw [HHQ.out] at OQ
      clear o0 s0 f0 p0 p1 p2
      generalize wr.setCell ⟨w2.heap.size, q, none⟩ (.bool true) = W1 at *
      by_cases hk0 : k = 0
      · have y0 : decide (0 < (k : Int)) = false := decide_eq_false (by omega)
        have y1 : ¬ (0 : Int) < (k : Int) := by omega
        have y2 : ¬ 0 < k := by omega
        have y3 : decide (0 < k) = false := decide_eq_false y2
        clear LQ OQ hk0
        go_quiet (fail)
        go_wp2
        go_roundw
        case rel => exact ⟨k + 1, by omega, by go_num, HS.out.kpt ((Kpt.refl _).drewN _), KS.out.drewN _⟩
        case measure => simp [intOf]; omega
      · have hpr := HPR.out (k - 1) (by omega)
        rw [show k - 1 + 1 = k by omega, HHQ.out, Int.toNat_natCast] at hpr
        have hbm := HBD.out (k - 1) (by omega)
        have OM := OC.out (k - 1) (by omega)
        obtain ⟨m, hm⟩ : ∃ m : Nat, (ordB ps).getD (k - 1) 0 = (m : Int) := ⟨((ordB ps).getD (k - 1) 0).toNat, by omega⟩
        rw [hm] at hpr hbm OM
        rw [Int.toNat_natCast] at hpr
        have LM := LC.out m (by omega)
        have m1 : (m : Int) < (n : Int) := hbm.2
        have m0 : 0 ≤ (m : Int) := by omega
        obtain ⟨x0, x1, x2⟩ := LM
        obtain ⟨y0, y1, y2⟩ := LQ
        generalize ps.getD m default = pm at x0 x1 x2 hpr
        generalize ps.getD q default = pk at y0 y1 y2 hpr
        obtain ⟨P1, U1, C1⟩ := pm
        obtain ⟨P2, U2, C2⟩ := pk
        simp only at x0 x1 x2 y0 y1 y2 hpr
        have z1 : decide (C2 < C1) = false := decide_eq_false (by omega)
        have y3 : decide (0 < (k : Int)) = true := decide_eq_true (by omega)
        have y4 : (0 : Int) < (k : Int) := by omega
        have y5 : 0 < k := by omega
        have y6 : decide (0 < k) = true := decide_eq_true y5
        have k1 : 1 ≤ (k : Int) := by omega
        have k2 : 0 ≤ (k : Int) - 1 := by omega
        have k3 : (k : Int) - 1 < (n : Int) := by omega
        have k4 : IntKind.i64.wrap ((k : Int) - 1) = (k : Int) - 1 := IntWalk.i64_in _ (by omega)
        obtain ⟨j, hj⟩ : ∃ j, ((k : Int) - 1).toNat = j := ⟨_, rfl⟩
        have e : k - 1 = j := by omega
        rw [e] at OM
        clear hbm hpr hm hk0 e
        go_quiet (fail)
        go_wp2
        go_roundw
        case rel => exact ⟨k + 1, by omega, by go_num, HS.out.kpt ((Kpt.refl _).drewN _), KS.out.drewN _⟩
        case measure => simp [intOf]; omega
    · obtain rfl : k = n := by omega
      rename World => w4
      clear HB
      have KR := Lib.hid (ktr K2.out HK.out)
      have RO : Hid (Row w4 O (ordB ps)) := Lib.hid (Row.below R2.out HK.out HLO.out)
      have w1 : IntKind.i64.wrap ((k : Int) - 1) = (k : Int) - 1 := IntWalk.i64_in _ (by have := H40.out; omega)
      have HLC : Hid (∀ x, x < k → PtAt w4 b (off + x * 3) (ps.getD x default)) := fun x hx => (HC.out x hx).kpt KR.out
      clear HK
      go_wp2
      go_loopw [7, 8] (fun lv ii wr => ∃ (m : Nat) (x : Int), m ≤ k ∧ ii = .int .i64 x ∧ x = (k : Int) - 1 - m ∧ Hid (OwnsT 52 wr w4.heap.size lv (ps.reverse.take m)) ∧ Hid (Kpt w4 wr)) (fun _ ii _ => (intOf ii + 1).toNat)
      case atStart => exact ⟨0, (k : Int) - 1, Nat.zero_le _, rfl, by omega, OwnsT.nil _ _ _, Kpt.refl w4⟩
      case round =>
        obtain ⟨m, x, hm, rfl, hx, HO, HK⟩ := hrel
        by_cases hmk : m < k
        · obtain ⟨g, rfl⟩ : ∃ g : Nat, x = (g : Int) := ⟨x.toNat, by omega⟩
          have hg : k - 1 - m = g := by omega
          have hrv := HRV.out m hmk
          rw [hg] at hrv
          have gk : g < k := by omega
          obtain ⟨c0, c1, c2⟩ := (HLC.out g gk).kpt HK.out
          have ip := HIP.out _ (HMM.out g gk)
          generalize ps.getD g default = pp at c0 c1 c2 hrv ip
          obtain ⟨P, U, C⟩ := pp
          simp only at c0 c1 c2
          have IPP := Lib.hid ip
          have HL : Hid ((ps.reverse.take m).length ≤ 40) := by unfold Hid; rw [List.length_take]; have := H40.out; omega
          have HRV2 := Lib.hid hrv
          have g0 : (0 : Int) ≤ (g : Int) := by omega
          have g1 : (g : Int) < (k : Int) := by omega
          have g2 : decide ((0 : Int) ≤ (g : Int)) = true := decide_eq_true g0
          have g3 : IntKind.i64.wrap ((g : Int) - 1) = (g : Int) - 1 := IntWalk.i64_in _ (by have := H40.out; omega)
          have HX := Lib.hid hx
          have G1 : Hid (g < k) := gk
          clear hrv ip hx hg gk
          go_wp2_with (at_builtin; refine wp_appendO rfl (.tmp 90) (.tmp 95) rfl w4.heap.size _ _ (ps.reverse.take m) [(P, U, C)] _ rfl (HO.out.alloc _) rfl (readsO_one IPP.out) (by have := HL.out; simp; omega) (by have := HK.out.size; simp; omega) ?_; intro v' w' ho' hb'; have HO' := Lib.hid ho'; have HB' : Hid (Kpt w4 w') := Below.trans (HK.out.alloc _) hb'; clear ho' hb')
          go_roundw
          case rel => exact ⟨m + 1, (g : Int) - 1, by omega, rfl, by have := HX.out; omega, by unfold Hid; rw [HRV2.out]; exact HO'.out, HB'.out⟩
          case measure => (simp [intOf]; try omega)
        · obtain rfl : m = k := by omega
          obtain rfl : x = -1 := by omega
          have e1 : ps.reverse.take m = ps.reverse := List.take_of_length_le (Nat.le_of_eq HRL.out)
          rw [e1] at HO
          have RB := Lib.hid (OwnsT.reads HO.out HIR.out)
          obtain ⟨la, lc, hlv⟩ := OwnsT.form HO.out
          rw [HRL.out] at hlv
          subst hlv
          have CC := Lib.hid (C2.out la lc _ RB.out)
          have hro : (ordB ps.reverse).length = m := HOR.out.trans HRL.out
          have hbr := HBR.out 0 (by omega)
          have hbo := HBD.out 0 (by have := HOL.out; omega)
          have fi := HFI.out
          have oc : wr.cell? ⟨O, 0, none⟩ = some (.int .i64 ((ordB ps).getD 0 0)) := HK.out.cell (RO.out.cell (by have := HOL.out; omega))
          obtain ⟨q, hq⟩ : ∃ q : Nat, (ordB ps).getD 0 0 = (q : Int) := ⟨((ordB ps).getD 0 0).toNat, by omega⟩
          obtain ⟨r, hr⟩ : ∃ r : Nat, (ordB ps.reverse).getD 0 0 = (r : Int) := ⟨((ordB ps.reverse).getD 0 0).toNat, by omega⟩
          rw [hq] at hbo oc fi
          rw [hr] at hbr fi
          rw [Int.toNat_natCast, Int.toNat_natCast] at fi
          rw [HRL.out] at hbr
          have qm : q < m := by omega
          have rm : r < m := by omega
          have lq := (HLC.out q qm).kpt HK.out
          obtain ⟨la', lc', ee, -, -, -, hcb⟩ := RB.out
          obtain ⟨gb, go, hla, lr⟩ := hcb r (by rw [HRL.out]; exact rm)
          injection ee with ee1 ee2 ee3
          rw [← ee1] at hla
          subst hla
          generalize ps.getD q default = pa at lq fi
          generalize ps.reverse.getD r default = pb at lr fi
          obtain ⟨P1, U1, C1⟩ := pa
          obtain ⟨P2, U2, C2'⟩ := pb
          simp only at fi
          obtain ⟨rfl, rfl⟩ := fi
          have LQ := Lib.hid lq
          have LR := Lib.hid lr
          have OC := Lib.hid oc
          have HR0 := Lib.hid hr
          have HRO := Lib.hid hro
          have q0 : (0 : Int) ≤ (q : Int) := by omega
          have q1 : (q : Int) < (m : Int) := by omega
          have r0 : (0 : Int) ≤ (r : Int) := by omega
          have r1 : (r : Int) < (m : Int) := by omega
          have KS := Lib.hid (ktr KR.out HK.out)
          clear lq lr oc hbo hbr hq hr hro HO RB C2 ee1 ee2 ee3 hcb
          go_upto_region 21 with (first
            | (go_at_call 16; (with_reducible refine CC.out.mono ?_); rintro e w5 ⟨O2, rfl, -, r5, k5⟩; have K5 := Lib.hid (ktr KS.out k5); have R5 := Lib.hid r5; have LQ5 := Lib.hid (LQ.out.kpt k5); have LR5 := Lib.hid (LR.out.kpt k5); have OC5 := Lib.hid (Kpt.cell k5 OC.out); clear k5 r5))
          obtain ⟨a0, a1, a2⟩ := LQ5.out
          obtain ⟨b0, b1, b2⟩ := LR5.out
          simp only at a0 a1 a2 b0 b1 b2
          have oc := OC5.out
          have pc : w5.cell? ⟨O2, 0, none⟩ = some (.int .i64 (r : Int)) := by have := R5.out.cell (j := 0) (by have := HRO.out; omega); rwa [HR0.out] at this
          go_quiet (fail)
          go_wp2
          go_ret
          exact ⟨rfl, K5.out.drewN _⟩

set_option maxRecDepth 100000 in
set_option maxHeartbeats 2000000 in
theorem border_nil (a : Option Addr) (cap : Nat) (hx : a = none → cap = 0) (w : World) :
    Calls Try.prog 6 #[.slice a 0 cap] w fun e w' => e = .returned (.bool true) ∧ Kpt w w' := by
  have C : Hid (∀ (a : Option Addr) (cap : Nat) (w : World), (a = none → cap = 0) → Calls Try.prog 16 #[.slice a 0 cap] w fun e w' => ∃ O, e = .returned (.tuple #[.slice (some ⟨O, 0, none⟩) 0 0, .int .i64 0]) ∧ Kpt w w') := fun a cap w h => by
    refine (order_ok a cap [] w (readsP_nil w a cap h) (by decide)).mono ?_
    rintro e w' ⟨O, rfl, -, -, k⟩
    exact ⟨O, rfl, k⟩
  have MK : Hid (∀ w' : World, (Instr.makeSlice 50 (.int .i64 0) (.int .i64 0)).run Try.prog w' = .ok (.slice (some ⟨w'.heap.size, 0, none⟩) 0 0) (w'.alloc (.cells (Array.replicate 0 (Value.bool false)) 4))) := fun w' => run_falses w' 0 (by omega)
  have HX := Lib.hid hx
  go_enter Try.func6, Try.ntmps6
  go_wp2_with (first
    | (go_at_call 16; (with_reducible refine (C.out _ _ _ HX.out).mono ?_); rintro e w1 ⟨O, rfl, k1⟩; have K1 := Lib.hid k1; clear k1)
    | (go_at_call 17; (with_reducible refine (buyinBegun _).mono ?_); rintro e w2 ⟨rfl, k1⟩; have K2 := Lib.hid (ktr K1.out k1); have MK2 := MK.out w2; clear k1))
  go_loopw [6] (fun ii wr => ii = .int .i64 0 ∧ Hid (Kpt w2 wr)) (fun _ _ => 0)
  case atStart => exact ⟨rfl, (Kpt.refl w2).alloc _⟩
  case round =>
    obtain ⟨rfl, HK⟩ := hrel
    rename World => w4
    have KR := Lib.hid (ktr K2.out HK.out)
    go_wp2
    go_loopw [7, 8] (fun lv ii ws => lv = .slice none 0 0 ∧ ii = .int .i64 (-1) ∧ Hid (Kpt w4 ws)) (fun _ _ _ => 0)
    case atStart => exact ⟨rfl, rfl, Kpt.refl w4⟩
    case round =>
      obtain ⟨rfl, rfl, HK2⟩ := hrel
      have KS := Lib.hid (ktr KR.out HK2.out)
      go_upto_region 21 with (first
        | (go_at_call 16; (with_reducible refine (C.out none 0 _ (fun _ => rfl)).mono ?_); rintro e w5 ⟨O2, rfl, k5⟩; have K5 := Lib.hid (ktr KS.out k5); clear k5))
      go_quiet (fail)
      go_wp2
      go_ret
      exact ⟨rfl, K5.out.drewN _⟩
theorem border_plain (v : Value) (ps : List (Int × Int × Int)) (w : World) (hr : ReadsP w v ps) :
    Calls Try.prog 6 #[v] w fun e w' => e = .returned (.bool true) ∧ Kpt w w' := by
  by_cases hE : loanE ps = 0
  · rcases hr.cell with ⟨rfl, a, c, rfl⟩ | ⟨h0, b, off, c, rfl, hc⟩
    · obtain ⟨a', c', e, hn, -⟩ := hr
      injection e with e1 _ e3
      exact border_nil a c (fun h => by rw [e3]; exact hn (by rw [← e1]; exact h)) w
    · exact border_ok b off c ps w hr hc h0 hE
  · exact border_no v ps w hr hE

end Go.Proofs.Ytmoanndonfmihaa
