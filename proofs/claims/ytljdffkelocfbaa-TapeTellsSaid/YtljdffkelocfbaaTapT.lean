/-
  The reference's TapeGet.
-/
import Derived.Test.YtljdffkelocfbaaTapS
import Derived.Test.YtljdffkelocfbaaQuietK
import Derived.Deep.Cut
namespace Go.Proofs.Ytljdffkelocfbaa
open Go.RowKit
set_option linter.unusedVariables false

/-- what has been got so far -/
structure RG (w wr : World) (t : List Nat) (k : Nat) (ov : Value) (us : List Value) : Prop where
  kp : Kpt w wr
  wO : OwnsS wr w.heap.size ov us
  ul : us.length = k
  el : ∀ j, j < k → OwnsU wr w.heap.size (us.getD j undef) ((recs t).getD j [])
theorem RG.next {w wr w1 w2 : World} {t : List Nat} {k : Nat} {ov v' u : Value} {us : List Value} (h : RG w wr t k ov us) (K : Kpt wr w1) (o : OwnsU w1 w.heap.size u ((recs t).getD k [])) (own : OwnsS w2 w.heap.size v' (us ++ [u])) (g : ∃ tmp, (w1.alloc tmp).grownBy w2 ov.ownBlock) : RG w w2 t (k + 1) v' (us ++ [u]) := by
  obtain ⟨tmp, g⟩ := g
  have hul := h.ul
  have w1o := (h.wO.kpt K).kpt ((Kpt.refl w1).alloc tmp)
  have K1 := ktr h.kp K
  refine ⟨?_, own, by simp [hul], fun j hj => ?_⟩
  · have hs := Below.size K1
    exact ((Kpt.refl w).trans (K1.alloc tmp)).grown g (by rw [World.size_alloc]; omega) h.wO.ge
  · by_cases hj' : j < us.length
    · rw [List.getD_eq_getElem?_getD, List.getElem?_append_left hj', ← List.getD_eq_getElem?_getD]
      exact (((h.el j (by omega)).kpt K).kpt ((Kpt.refl w1).alloc tmp)).grown w1o g
    · obtain rfl : j = k := by omega
      rw [List.getD_eq_getElem?_getD, List.getElem?_append_right (by omega), hul]
      have := (o.kpt ((Kpt.refl w1).alloc tmp)).grown w1o g
      simpa using this
theorem fsz_get {t : List Nat} {p : Nat} (hB : IsB t) (h : p + 2 ≤ t.length) : fsz (t.drop p) = 256 * t.getD p 0 + t.getD (p + 1) 0 := by
  have e : (t.drop p).take 2 = [t.getD p 0, t.getD (p + 1) 0] := by
    refine List.ext_getElem (by simp; omega) fun i h1 h2 => ?_
    match i with
    | 0 => simp [List.getD_eq_getElem?_getD, List.getElem?_eq_getElem (show p < t.length by omega)]
    | 1 => simp [List.getD_eq_getElem?_getD, List.getElem?_eq_getElem (show p + 1 < t.length by omega)]
    | i + 2 => exact absurd h2 (by simp)
  unfold fsz
  rw [e]
  have h0 : t.getD p 0 < 256 := hB _ (getB_mem (by omega))
  simp only [nub, List.foldl_cons, List.foldl_nil]
  omega
/-- what the round at record k sees -/
theorem get_sees {t : List Nat} (hB : IsB t) {k p nn : Nat} (hk : k ≤ (recs t).length) (hp : pos t k = p) (hn : fsz (t.drop p) = nn) :
    ((¬ 6 < t.length - p ∨ nn = 0 ∨ ¬ nn + 6 ≤ t.length - p) → k = (recs t).length ∧ p = ends (recs t)) ∧
    (nn ≠ 0 → nn + 6 ≤ t.length - p → (rcd ((t.drop (p + 2)).take nn)).length = nn + 6 ∧
      (rcd ((t.drop (p + 2)).take nn) ≠ (t.drop p).take (nn + 6) → k = (recs t).length ∧ p = ends (recs t)) ∧
      (rcd ((t.drop (p + 2)).take nn) = (t.drop p).take (nn + 6) → k < (recs t).length ∧ (recs t).getD k [] = (t.drop (p + 2)).take nn ∧ pos t (k + 1) = p + (nn + 6))) := by
  subst hp hn
  obtain ⟨ra, rp⟩ := recs_at t k hk
  have hdl : (t.drop (pos t k)).length = t.length - pos t k := List.length_drop ..
  have stop : fst? (t.drop (pos t k)) = false → k = (recs t).length ∧ pos t k = ends (recs t) := by
    intro h
    rw [recs_f h] at ra
    have : k = (recs t).length := by
      have h3 := congrArg List.length ra
      rw [List.length_drop] at h3; simp at h3; omega
    exact ⟨this, by unfold pos; rw [this, List.take_length]⟩
  have hb : bdy (t.drop (pos t k)) = (t.drop (pos t k + 2)).take (fsz (t.drop (pos t k))) := by unfold bdy; rw [List.drop_drop]
  constructor
  · intro h
    refine stop ?_
    cases hq : fst? (t.drop (pos t k)) with
    | false => rfl
    | true => have := fst_t hq; omega
  · intro h0 h6
    have hl : ((t.drop (pos t k + 2)).take (fsz (t.drop (pos t k)))).length = fsz (t.drop (pos t k)) := by rw [List.length_take, List.length_drop]; omega
    have hiff := rcd_eq (isB_drop hB (pos t k)) (by omega) h0 (by omega)
    rw [hb] at hiff
    refine ⟨by rw [rcd_len, hl], fun h => stop ?_, fun h => ?_⟩
    · cases hq : fst? (t.drop (pos t k)) with
      | false => rfl
      | true => exact absurd (hiff.2 hq) h
    · have hq := hiff.1 h
      have hlt : k < (recs t).length := by
        rw [recs_t hq] at ra
        have h3 := congrArg List.length ra
        rw [List.length_drop, List.length_cons] at h3; omega
      obtain ⟨g1, g2, g3, g4, g5⟩ := rec_is hlt
      exact ⟨hlt, by rw [← g2, hb], by rw [g4, ← g3]; omega⟩
set_option maxRecDepth 100000 in
set_option maxHeartbeats 4000000 in
theorem rget_run (v : Value) (t : List Nat) (w : World) (hv : ReadsU w v t) (h4 : t.length ≤ 4000) : Calls Try.prog 15 #[v] w fun e w' => ∃ ov, e = .returned (.tuple #[ov, .int .i64 ((ends (recs t) : Nat) : Int)]) ∧ ReadsS w' ov (recs t) ∧ Kpt w w' := by
  have hB := hv.isB
  have hf := recs_few t
  obtain ⟨a, cap, rfl, hlc, hm, hn⟩ := hv.form
  have HV := Lib.hid hv
  have FIN := Lib.hid (fun w' (ov : Value) us (h : RG w w' t (recs t).length ov us) => readsS_own hB h4 h.wO h.ul (fun k hk => h.el k (by rw [h.ul] at hk; exact hk)))
  clear hv
  go_enter Try.func15, Try.ntmps15
  go_wp2
  go_loopw [4, 5] (fun ov ii wr => ∃ k : Nat, k ≤ (recs t).length ∧ ii = .int .i64 ((pos t k : Nat) : Int) ∧ ∃ us, Hid (RG w wr t k ov us)) (fun _ ii _ => t.length - (intOf ii).toNat)
  case atStart => exact ⟨0, Nat.zero_le _, rfl, [], ⟨Kpt.refl w, OwnsS.nil _ _, rfl, fun j hj => absurd hj (Nat.not_lt_zero j)⟩⟩
  case round =>
    obtain ⟨k, hk, rfl, us, HR⟩ := hrel
    have rp := (recs_at t k hk).2
    obtain ⟨nn, hnn⟩ : ∃ nn, fsz (t.drop (pos t k)) = nn := ⟨_, rfl⟩
    obtain ⟨s1, s2⟩ := get_sees hB hk rfl hnn
    obtain ⟨ao, no, co, rfl, -⟩ := HR.out.wO.form
    have S1 := Lib.hid s1
    have S2 := Lib.hid s2
    have RS := Lib.hid (fun (e : k = (recs t).length) => FIN.out _ _ _ (e ▸ HR.out))
    by_cases h6 : 6 < t.length - pos t k
    · have hz := fsz_get (p := pos t k) hB (by omega)
      rw [hnn] at hz
      obtain ⟨b0, off, rfl, c1⟩ := HV.out.at_ (j := pos t k) (by omega)
      obtain ⟨b1, off1, e1, c2⟩ := HV.out.at_ (j := pos t k + 1) (by omega)
      simp only [Option.some.injEq, Addr.mk.injEq] at e1
      obtain ⟨rfl, rfl, -⟩ := e1
      have x0 : t.getD (pos t k) 0 < 256 := hB _ (getB_mem (by omega))
      have x1 : t.getD (pos t k + 1) 0 < 256 := hB _ (getB_mem (by omega))
      clear s1 s2 hnn FIN
      generalize hp : pos t k = p at *
      have HP := Lib.hid hp
      clear hp
      generalize t.getD p 0 = z0 at *
      generalize t.getD (p + 1) 0 = z1 at *
      have r1 := cell_k (q := wr) (a := ⟨b0, off + p, none⟩) (v := .int .u8 (z0 : Int)) (HR.out.kp.cell c1)
      have r2 := cell_k (q := wr) (a := ⟨b0, off + (p + 1), none⟩) (v := .int .u8 (z1 : Int)) (HR.out.kp.cell c2)
      have q1 : IntKind.i64.wrap (256 * (z0 : Int)) = 256 * (z0 : Int) := IntWalk.i64_in _ (by omega)
      have q2 : IntKind.i64.wrap (256 * (z0 : Int) + (z1 : Int)) = (nn : Int) := by rw [IntWalk.i64_in _ (by omega)]; omega
      have m0 : IntKind.i64.wrap ((p : Int) + 1) = (p : Int) + 1 := IntWalk.i64_in _ (by omega)
      have m1 : IntKind.i64.wrap ((t.length : Int) - (p : Int)) = (t.length : Int) - (p : Int) := IntWalk.i64_in _ (by omega)
      have m2 : IntKind.i64.wrap ((t.length : Int) - (p : Int) - 6) = (t.length : Int) - (p : Int) - 6 := IntWalk.i64_in _ (by omega)
      have y1 : decide ((6 : Int) < (t.length : Int) - (p : Int)) = true := decide_eq_true (by omega)
      have n0 : (0 : Int) ≤ (p : Int) := by omega
      have n1 : (p : Int) < (t.length : Int) := by omega
      have n2 : (p : Int) + 1 < (t.length : Int) := by omega
      have n3 : (0 : Int) ≤ (p : Int) + 1 := by omega
      have tn : ((p : Int) + 1).toNat = p + 1 := by omega
      have qa : IntKind.i64.wrap (z0 : Int) = (z0 : Int) := IntWalk.i64_in _ (by omega)
      have qb : IntKind.i64.wrap (z1 : Int) = (z1 : Int) := IntWalk.i64_in _ (by omega)
      go_upto_region 4 with fail
      have mixed : Try.prog.follows .mixedOrders = true := by kernel_rfl
      refine quiet_k (q := wr) mixed (by kernel_rfl) ?_
      repeat (quiet_step (fail))
      refine wpQuiet_nil ?_
      intro w8 hw1
      obtain ⟨⟨wz, kz⟩, hw2⟩ := hw1
      have hw3 : w8 = wz := hw2
      clear hw2
      subst hw3
      have q3 : 256 * (z0 : Int) + (z1 : Int) = (nn : Int) := by omega
      simp only [q3]
      clear hz
      clear q1 q2 q3 qa qb r1 r2 c1 c2 m0 n1 n2 n3 tn x0 x1 mixed
      have HK := Lib.hid (ktr HR.out.kp kz)
      by_cases hin : nn ≠ 0 ∧ nn + 6 ≤ t.length - p
      · obtain ⟨h0, h6'⟩ := hin
        obtain ⟨g1, g2, g3⟩ := S2.out h0 h6'
        have y2 : (nn == 0) = false := beq_eq_false_iff_ne.2 h0
        have y3 : ((nn : Int) == 0) = false := beq_eq_false_iff_ne.2 (by omega)
        have y4 : decide ((t.length : Int) - (p : Int) - 6 < (nn : Int)) = false := decide_eq_false (by omega)
        have m3 : IntKind.i64.wrap ((p : Int) + 2) = (p : Int) + 2 := IntWalk.i64_in _ (by omega)
        have m4 : IntKind.i64.wrap ((p : Int) + 2 + (nn : Int)) = (p : Int) + 2 + (nn : Int) := IntWalk.i64_in _ (by omega)
        have l0 : (0 : Int) ≤ (p : Int) + 2 := by omega
        have l1 : (p : Int) + 2 ≤ (p : Int) + 2 + (nn : Int) := by omega
        have l2 : (p : Int) + 2 + (nn : Int) ≤ (cap : Int) := by omega
        have RB0 := Lib.hid (((HV.out.kpt HK.out).drop (n := p + 2) (by omega)).take (n := nn) (by rw [List.length_drop]; omega))
        have RD0 := Lib.hid (((HV.out.kpt HK.out).drop (n := p) (by omega)).take (n := nn + 6) (by rw [List.length_drop]; omega))
        have hbl : ((t.drop (p + 2)).take nn).length = nn := by rw [List.length_take, List.length_drop]; omega
        have hbb : IsB ((t.drop (p + 2)).take nn) := isB_take (isB_drop hB _) _
        generalize (t.drop (p + 2)).take nn = bs at *
        generalize (t.drop p).take (nn + 6) = dd at *
        have hrb : IsB (rcd bs) := rcd_is hbb
        have RC := Lib.hid (fun v' w' (h : ReadsU w' v' bs) => rrec_run v' bs w' h (by omega))
        generalize rcd bs = rr at *
        have G1 := Lib.hid g1
        rw [← g1] at RD0
        have O0 := Lib.hid (OwnsU.empty w8 w8.heap.size (Nat.le_refl _))
        have KA : Hid (Kpt w8 (w8.alloc (.cells #[] 5))) := (Kpt.refl w8).alloc _
        have BN : Hid (w8.heap.size ≤ (w8.alloc (.cells #[] 5)).heap.size) := Below.size KA.out
        have L0 : Hid ((([] : List Nat)).length + bs.length ≤ 1000000) := by unfold Hid; simp; omega
        have LB : Hid (bs.length ≤ 1000000) := by unfold Hid; omega
        have LR : Hid (rr.length ≤ 1000000) := by unfold Hid; omega
        have BL := Lib.hid hbl
        have BB := Lib.hid hbb
        have BR := Lib.hid hrb
        have FW : Hid (us.length + 1 ≤ 100000) := by have := HR.out.ul; unfold Hid; omega
        have l3 : (p : Int) + (rr.length : Int) ≤ (cap : Int) := by omega
        have l4 : (p : Int) ≤ (p : Int) + (rr.length : Int) := by omega
        have m5 : IntKind.i64.wrap ((p : Int) + (rr.length : Int)) = (p : Int) + (rr.length : Int) := IntWalk.i64_in _ (by omega)
        clear hbl hbb hrb
        by_cases heq : rr = dd
        · obtain ⟨f1, f2, f3⟩ := g3 heq
          subst heq
          have F2 := Lib.hid f2
          clear g1 g2 g3 f2
          go_wp2_with (first
            | (at_builtin; refine wp_appendU rfl (.tmp 38) (.tmp 46) rfl w8.heap.size _ (.slice (some ⟨b0, off + (p + 2), none⟩) nn (cap - (p + 2))) [] bs _ rfl O0.out (by simp only [Act.eval]; simp; done) (RB0.out.kpt KA.out) L0.out BN.out ?_; intro v1 w1 o1 k1; rw [List.nil_append] at o1; have K1 : Hid (Kpt w8 w1) := Lib.hid (KA.out.trans k1); have r1 := o1.reads BB.out LB.out; obtain ⟨a1, c1, rfl, -⟩ := r1.form; have R1 := Lib.hid r1; have O1 := Lib.hid (o1.low (Below.size HK.out)); clear o1 k1 r1)
            | (go_at_call 27; (with_reducible refine (RC.out _ _ R1.out).mono ?_); rintro e w2 ⟨v2, rfl, o2, k2⟩; have r2 := o2.reads BR.out LR.out; obtain ⟨a2, c2, rfl, -⟩ := r2.form; have R2 := Lib.hid r2; have K2 := Lib.hid (ktr K1.out k2); have O2 := Lib.hid (O1.out.kpt k2); clear o2 k2 r2)
            | (go_at_call 17; (with_reducible refine (samU_run _ _ _ _ R2.out (RD0.out.kpt K2.out)).mono ?_); rintro e w3 ⟨rfl, rfl⟩)
            | (at_builtin; refine wp_appendS rfl (.tmp 60) (.tmp 62) rfl w.heap.size _ _ us _ w2.heap.size 1 _ rfl (((HR.out.wO.kpt kz).kpt K2.out).kpt ((Kpt.refl w2).alloc _)) rfl (Blk.made w2 _ _) rfl FW.out (by rw [World.size_alloc]; have := Below.size HK.out; have := Below.size K2.out; omega) ?_; intro v3 w4 o3 g3; have M3 := Lib.hid (HR.out.next (ktr kz K2.out) (by rw [F2.out]; exact O2.out) o3 ⟨_, g3⟩); clear o3 g3))
          exact ⟨⟨k + 1, by omega, by rw [f3, ← G1.out]; push_cast; rfl, _, M3.out⟩, by have := G1.out; simp [intOf]; omega⟩
        · obtain ⟨e1, e2⟩ := g2 heq
          have RS := Lib.hid (RS.out e1)
          have HE := Lib.hid e2
          have NE := Lib.hid heq
          clear g1 g2 g3 heq e1 e2
          go_wp2_with (first
            | (at_builtin; refine wp_appendU rfl (.tmp 38) (.tmp 46) rfl w8.heap.size _ (.slice (some ⟨b0, off + (p + 2), none⟩) nn (cap - (p + 2))) [] bs _ rfl O0.out (by simp only [Act.eval]; simp; done) (RB0.out.kpt KA.out) L0.out BN.out ?_; intro v1 w1 o1 k1; rw [List.nil_append] at o1; have K1 : Hid (Kpt w8 w1) := Lib.hid (KA.out.trans k1); have r1 := o1.reads BB.out LB.out; obtain ⟨a1, c1, rfl, -⟩ := r1.form; have R1 := Lib.hid r1; clear o1 k1 r1)
            | (go_at_call 27; (with_reducible refine (RC.out _ _ R1.out).mono ?_); rintro e w2 ⟨v2, rfl, o2, k2⟩; have r2 := o2.reads BR.out LR.out; obtain ⟨a2, c2, rfl, -⟩ := r2.form; have R2 := Lib.hid r2; have K2 := Lib.hid (ktr K1.out k2); clear o2 k2 r2)
            | (go_at_call 17; (with_reducible refine (samN_run _ _ _ _ _ R2.out (RD0.out.kpt K2.out) NE.out).mono ?_); rintro e w3 ⟨rfl, rfl⟩))
          go_ret2
          exact ⟨.slice ao no co, by rw [← HE.out]; rfl, (RS.out.kpt kz).kpt K2.out, ktr HK.out K2.out⟩
      · obtain ⟨e1, e2⟩ := S1.out (.inr (by omega))
        have RS := Lib.hid ((RS.out e1).kpt kz)
        have HE := Lib.hid (e2)
        have y2 : ((nn == 0) = true) ∨ ((nn == 0) = false ∧ decide ((t.length : Int) - (p : Int) - 6 < (nn : Int)) = true) := by
          by_cases h : nn = 0
          · exact .inl (beq_iff_eq.2 h)
          · exact .inr ⟨beq_eq_false_iff_ne.2 h, decide_eq_true (by omega)⟩
        clear HR e1 S1 S2 e2
        rcases y2 with y2 | ⟨y2, y3⟩
        · obtain rfl := beq_iff_eq.1 y2
          clear hin
          go_wp2
          go_ret2
          exact ⟨.slice ao no co, by rw [← HE.out]; rfl, RS.out, HK.out⟩
        · have y4 : ((nn : Int) == 0) = false := beq_eq_false_iff_ne.2 (by have := beq_eq_false_iff_ne.1 y2; omega)
          clear hin
          go_wp2
          go_ret2
          exact ⟨.slice ao no co, by rw [← HE.out]; rfl, RS.out, HK.out⟩
    · obtain ⟨e1, e2⟩ := S1.out (.inl h6)
      have RS := Lib.hid (RS.out e1)
      have HE := Lib.hid e2
      have KK := Lib.hid HR.out.kp
      clear HR FIN e1 s1 s2 S1 S2 hnn
      generalize pos t k = p at *
      have m1 : IntKind.i64.wrap ((t.length : Int) - (p : Int)) = (t.length : Int) - (p : Int) := IntWalk.i64_in _ (by omega)
      have y1 : decide ((6 : Int) < (t.length : Int) - (p : Int)) = false := decide_eq_false (by omega)
      clear e2
      go_wp2
      go_ret2
      exact ⟨.slice ao no co, by rw [← HE.out]; rfl, RS.out, KK.out⟩

end Go.Proofs.Ytljdffkelocfbaa
