/-
  TapeMany: the law answers true.
-/
import Derived.Test.YtljdffkelocfbaaTapP
namespace Go.Proofs.Ytljdffkelocfbaa
open Go.RowKit
set_option linter.unusedVariables false

set_option maxRecDepth 100000 in
set_option maxHeartbeats 2000000 in
theorem tmany_plain (v : Value) (L : List (List Nat)) (w : World) (hv : ReadsB w v L) : Calls Try.prog 8 #[v] w fun e w' => e = .returned (.bool true) ∧ Kpt w w' := by
  obtain ⟨a, cap, rfl, hlc, hm⟩ := hv.form
  unfold maxLen at hm
  have AT := Lib.hid (fun k (hk : k < L.length) => hv.at_ hk)
  generalize hn : L.length = n at *
  clear hn hv
  go_enter Try.func8, Try.ntmps8
  go_wp2_with (go_at_call 16; (with_reducible refine (tapeBegun _).mono ?_); rintro e w1 ⟨rfl, k1⟩; have K1 := Lib.hid k1; clear k1)
  go_loopw [3, 4, 5] (fun tv wv ii wr => ∃ k : Nat, k ≤ n ∧ ii = .int .i64 (k : Int) ∧ ∃ T us, Hid (MS w wr tv wv T us)) (fun _ _ ii _ => n - (intOf ii).toNat)
  case atStart => exact ⟨0, Nat.zero_le _, rfl, [], [], MS.start w w1 K1.out⟩
  case round =>
    obtain ⟨k, hk, rfl, T, us, HM⟩ := hrel
    by_cases hlt : k < n
    · obtain ⟨b, off, u, rfl, cx, rx⟩ := AT.out k hlt
      obtain ⟨au, cu, rfl, -⟩ := rx.form
      have c0 := HM.out.kp.cell cx
      have rl := rx.len
      obtain ⟨at', ct, rfl, -⟩ := HM.out.reads.form
      have tl := HM.out.tl
      have RX := Lib.hid rx
      have CX := Lib.hid cx
      generalize L.getD k [] = bs at *
      have m1 : IntKind.i64.wrap ((k : Int) + 1) = (k : Int) + 1 := IntWalk.i64_in _ (by omega)
      have n0 : (0 : Int) ≤ (k : Int) := by omega
      have n1 : (k : Int) < (n : Int) := by omega
      by_cases hp : putE T bs = 0
      · have P := Lib.hid (put_ok T bs _ _ wr HM.out.reads (rx.kpt HM.out.kp) hp)
        have hpl : (T ++ rcd bs).length = T.length + bs.length + 6 := by rw [List.length_append, rcd_len]; omega
        have HP := Lib.hid hp
        have HL := Lib.hid hpl
        clear cx rx hp hpl
        have m2 : IntKind.i64.wrap ((T.length : Int) + (bs.length : Int)) = (T.length : Int) + (bs.length : Int) := IntWalk.i64_in _ (by omega)
        have m3 : IntKind.i64.wrap ((T.length : Int) + (bs.length : Int) + 6) = (T.length : Int) + (bs.length : Int) + 6 := IntWalk.i64_in _ (by omega)
        have FW : Hid (us.length + 1 ≤ 100000) := by have := HM.out.few; unfold Hid; omega
        go_wp2_with (first
          | (go_at_call 10; (with_reducible refine P.out.mono ?_); rintro e w2 ⟨p2, rfl, o2, k2⟩; obtain ⟨ap, np, cp, rfl, e2⟩ := o2.form; have e3 := e2.out.trans HL.out; subst e3; have O2 := Lib.hid (o2.low (Below.size HM.out.kp)); have K2 := Lib.hid k2; have c2 : w2.cell? ⟨b, off + k, none⟩ = some (.slice au bs.length cu) := k2.cell c0; clear o2 k2 e2)
          | (at_builtin; refine wp_appendS rfl (.tmp 57) (.tmp 62) rfl w.heap.size _ (.slice au bs.length cu) us _ w2.heap.size 1 _ rfl ((HM.out.kpt K2.out).wO.kpt ((Kpt.refl w2).alloc _)) rfl (Blk.made w2 _ _) rfl FW.out (by rw [World.size_alloc]; have := Below.size (HM.out.kpt K2.out).kp; omega) ?_; intro v3 w3 o3 g3; have M3 := Lib.hid (HM.out.next HP.out RX.out K2.out O2.out o3 ⟨_, g3⟩); clear o3 g3))
        exact ⟨⟨k + 1, by omega, rfl, _, _, M3.out⟩, by simp [intOf]; omega⟩
      · have P := Lib.hid (put_bad T bs _ _ wr HM.out.reads (rx.kpt HM.out.kp) hp)
        have PUT : Hid (∀ E : Int, putE T bs = E → Calls Try.prog 10 #[.slice at' T.length ct, .slice au bs.length cu] wr fun e w' => e = .returned (.tuple #[.slice none 0 0, .int .i64 E]) ∧ Kpt wr w') := fun E hE => by rw [← hE]; exact P.out
        by_cases h0 : bs.length = 0
        · have P3 := Lib.hid (PUT.out 3 (by unfold putE; rw [if_pos tl, if_pos h0]))
          obtain rfl := List.eq_nil_of_length_eq_zero h0
          rw [show ([] : List Nat).length = 0 from rfl] at c0 P3
          clear cx rx hp PUT P CX RX rl h0
          go_wp2_with (go_at_call 10; (with_reducible refine P3.out.mono ?_); rintro e w2 ⟨rfl, k2⟩; have M2 := Lib.hid (HM.out.kpt k2); have c2 : w2.cell? ⟨b, off + k, none⟩ = some (.slice au 0 cu) := k2.cell c0; clear k2)
          exact ⟨⟨k + 1, by omega, rfl, _, _, M2.out⟩, by simp [intOf]; omega⟩
        · have P3 := Lib.hid (PUT.out 8 (by unfold putE at hp ⊢; rw [if_pos tl, if_neg h0] at hp ⊢; exact if_neg fun h => hp (if_pos h)))
          have y1 : (bs.length == 0) = false := beq_eq_false_iff_ne.2 h0
          have y2 : ((bs.length : Int) == 0) = false := beq_eq_false_iff_ne.2 (by omega)
          clear cx rx hp PUT P CX RX rl
          generalize bs.length = nb at *
          go_wp2_with (go_at_call 10; (with_reducible refine P3.out.mono ?_); rintro e w2 ⟨rfl, k2⟩; have M2 := Lib.hid (HM.out.kpt k2); have c2 : w2.cell? ⟨b, off + k, none⟩ = some (.slice au nb cu) := k2.cell c0; clear k2)
          exact ⟨⟨k + 1, by omega, rfl, _, _, M2.out⟩, by simp [intOf]; omega⟩
    · obtain rfl : k = n := by omega
      have G := Lib.hid (fun w' (k : Kpt wr w') => getC _ T w' ((HM.out.kpt k).reads) HM.out.tl)
      rw [HM.out.te] at G
      have W0 := Lib.hid HM.out.want
      have K0 := Lib.hid HM.out.kp
      obtain ⟨at', ct, rfl, -⟩ := HM.out.reads.form
      obtain ⟨aw, nw, cw, rfl, -⟩ := HM.out.wO.form
      clear HM AT
      generalize recs T = M at *
      go_wp2_with (first
        | (go_at_call 11; (with_reducible refine (G.out _ (Kpt.refl wr)).mono ?_); rintro e w2 ⟨am, cm, rfl, r2, k2⟩; have R2 := Lib.hid r2; have K2 := Lib.hid (ktr K0.out k2); have W2 := Lib.hid (W0.out.kpt k2); clear r2 k2)
        | (go_at_call 18; (with_reducible refine (samS_run _ _ _ _ R2.out W2.out).mono ?_); rintro e w3 ⟨rfl, k3⟩; have K3 := Lib.hid (ktr K2.out k3); clear k3))
      go_ret
      exact ⟨rfl, K3.out⟩

end Go.Proofs.Ytljdffkelocfbaa
