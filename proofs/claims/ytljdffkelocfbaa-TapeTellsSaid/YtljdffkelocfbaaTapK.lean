/-
  What must be of tapes in any case: tapeBegun answers true.
-/
import Derived.Test.YtljdffkelocfbaaTapJ
import Derived.Lib.SlBytesConst
namespace Go.Proofs.Ytljdffkelocfbaa
open Go.RowKit
set_option linter.unusedVariables false

theorem get_bad (a : Option Addr) (n cap : Nat) (w : World) (h4 : 4000 < n) : Calls Try.prog 11 #[.slice a n cap] w fun e w' => e = .returned (.tuple #[.slice none 0 0, .int .i64 0, .int .i64 2]) ∧ Kpt w w' := by
  have y : decide ((4000 : Int) < (n : Int)) = true := decide_eq_true (by omega)
  go_enter Try.func11, Try.ntmps11
  go_wp2
  go_ret3
  exact ⟨rfl, Kpt.refl _⟩
theorem get_reads (v : Value) (t : List Nat) (w : World) (hr : ReadsU w v t) (h4 : t.length ≤ 4000) : Calls Try.prog 11 #[v] w fun e w' => ∃ l, e = .returned (.tuple #[l, .int .i64 ((ends (recs t) : Nat) : Int), .int .i64 0]) ∧ ReadsS w' l (recs t) ∧ Kpt w w' := by
  obtain ⟨a, cap, rfl, -⟩ := hr.form
  refine (get_ok a cap t w hr h4).mono ?_
  rintro e w' ⟨l, us, rfl, h1, h2, h3, hk⟩
  exact ⟨l, rfl, readsS_own hr.isB h4 h1 h2 h3, hk⟩
theorem readsU_lit {w : World} {g : Nat} {cs : Array Value} {T : TypeId} {fr : Nat × Nat} (h : w.heap[g]? = some (.cells cs T fr)) (bs : List Nat) (n : Nat) (hc : cs = (bs.map u8v).toArray) (hb : IsB bs) (hn : n = bs.length) (hl : bs.length ≤ 1000000) : ReadsU w (.slice (some ⟨g, 0, none⟩) n n) bs := by
  subst hc hn
  refine ⟨_, _, rfl, Nat.le_refl _, ⟨by unfold maxLen; omega, by omega⟩, (fun e => by cases e), hb, fun j hj => ⟨g, 0, rfl, ?_⟩⟩
  rw [Nat.zero_add, cell_of_row w g j _ T fr h, List.getElem?_toArray]
  exact map_u8 bs j hj

theorem tk_n : crc [49, 50, 51, 52, 53, 54, 55, 56, 57] = 3421780262 := by decide +kernel
theorem tk_r : recs (rcd [7] ++ [0, 1, 7, 0]) = [[7]] := by decide +kernel
theorem tk_t : (rcd [7]).take 3 = [0, 1, 7] := by decide +kernel
theorem isB_dec {bs : List Nat} (h : bs.all (fun b => decide (b < 256)) = true) : IsB bs := fun b hb => of_decide_eq_true (List.all_eq_true.1 h b hb)
theorem tk_sum (W : World) (v : Value) (h : ReadsU W v [49, 50, 51, 52, 53, 54, 55, 56, 57]) : Calls Try.prog 9 #[v] W fun e w' => e = .returned (.tuple #[.int .i64 3421780262, .int .i64 0]) ∧ Kpt W w' := by
  have := tsum_run v _ W h
  rw [if_pos (by decide), if_pos (by decide), tk_n] at this
  exact this
theorem tk_put (W : World) (u : Value) (h : ReadsU W u [7]) : Calls Try.prog 10 #[.slice none 0 0, u] W fun e w' => ∃ a c, e = .returned (.tuple #[.slice a 7 c, .int .i64 0]) ∧ ReadsU w' (.slice a 7 c) (rcd [7]) ∧ Kpt W w' := by
  refine (put_ok [] [7] _ u W (readsU_nil W) h (by decide +kernel)).mono ?_
  rintro e w' ⟨v', rfl, ho, hk⟩
  rw [List.nil_append] at ho
  have hr := ho.reads (rcd_is (isB_dec (by decide))) (by rw [rcd_len]; decide)
  obtain ⟨a, c, rfl, -⟩ := hr.form
  rw [rcd_len] at hr ⊢
  exact ⟨a, c, rfl, hr, hk⟩
theorem tk_get (W : World) (v : Value) (h : ReadsU W v (rcd [7] ++ [0, 1, 7, 0])) : Calls Try.prog 11 #[v] W fun e w' => ∃ l, e = .returned (.tuple #[l, .int .i64 7, .int .i64 0]) ∧ ReadsS w' l [[7]] ∧ Kpt W w' := by
  have := get_reads v _ W h (by rw [List.length_append, rcd_len]; decide)
  rw [tk_r] at this
  exact this
theorem tk_torn (W : World) (v : Value) (h : ReadsU W v (rcd [7])) : Calls Try.prog 12 #[v, .int .i64 3] W fun e w' => ∃ u, e = .returned (.tuple #[u, .int .i64 0]) ∧ ReadsU w' u [0, 1, 7] ∧ Kpt W w' := by
  have e0 : torE (rcd [7]).length 3 = 0 := by rw [rcd_len]; decide
  refine (torn_run v _ 3 W h).mono ?_
  rintro e w' ⟨u, rfl, ho, hk⟩
  rw [e0, if_pos rfl] at ho
  rw [e0]
  have e1 : (rcd [7]).take (Int.toNat 3) = [0, 1, 7] := tk_t
  rw [e1] at ho
  exact ⟨u, rfl, ho.reads (isB_dec (by decide)) (by decide), hk⟩
theorem tk_bad (W : World) : Calls Try.prog 10 #[.slice none 0 0, .slice none 0 0] W fun e w' => e = .returned (.tuple #[.slice none 0 0, .int .i64 3]) ∧ Kpt W w' := by
  have := put_bad [] [] _ _ W (readsU_nil W) (readsU_nil W) (by decide)
  exact this
/-- one record, written down -/
theorem readsS_one {w : World} {g k : Nat} {T T' : TypeId} (h : Blk w g #[.int .u8 7] T) (h2 : Blk w k #[.slice (some ⟨g, 0, none⟩) 1 1] T') : ReadsS w (.slice (some ⟨k, 0, none⟩) 1 1) [[7]] := by
  refine ⟨_, 1, rfl, Nat.le_refl _, ⟨by unfold maxLen; omega, by decide⟩, (fun e => by cases e), fun j hj => ?_⟩
  obtain rfl : j = 0 := by simpa using hj
  exact ⟨k, 0, _, rfl, h2.cell 0, readsU_lit h [7] 1 rfl (isB_dec (by decide)) rfl (by decide)⟩
set_option maxRecDepth 100000 in
set_option maxHeartbeats 4000000 in
theorem tapeBegun (w : World) : Calls Try.prog 16 #[] w fun e w' => e = .returned (.bool true) ∧ Kpt w w' := by
  have CS := Lib.run_convert_bytes_const (P := Try.prog) w 22 5 #[.int .u8 49, .int .u8 50, .int .u8 51, .int .u8 52, .int .u8 53, .int .u8 54, .int .u8 55, .int .u8 56, .int .u8 57] 9 9 Try.underlying22 Try.underlying5
  have R9 := Lib.hid (readsU_lit (heap_alloc_new w (.cells #[.int .u8 49, .int .u8 50, .int .u8 51, .int .u8 52, .int .u8 53, .int .u8 54, .int .u8 55, .int .u8 56, .int .u8 57] 5 (9, 10))) [49, 50, 51, 52, 53, 54, 55, 56, 57] 9 rfl (isB_dec (by decide)) rfl (by decide))
  have RS : Hid (∀ W : World, ReadsS ((W.alloc (.cells #[.int .u8 7] 5)).alloc (.cells #[.slice (some ⟨W.heap.size, 0, none⟩) 1 1] 22)) (.slice (some ⟨W.heap.size + 1, 0, none⟩) 1 1) [[7]]) := fun W => by
    have h1 := (Blk.made W #[.int .u8 7] 5).alloc (.cells #[.slice (some ⟨W.heap.size, 0, none⟩) 1 1] 22)
    have h2 := Blk.made (W.alloc (.cells #[.int .u8 7] 5)) #[.slice (some ⟨W.heap.size, 0, none⟩) 1 1] 22
    rw [World.size_alloc] at h2
    exact readsS_one h1 h2
  have R7 : Hid (∀ W : World, ReadsU (W.alloc (.cells #[.int .u8 7] 5)) (.slice (some ⟨W.heap.size, 0, none⟩) 1 1) [7]) := fun W => readsU_lit (heap_alloc_new W (.cells #[.int .u8 7] 5)) [7] 1 rfl (isB_dec (by decide)) rfl (by decide)
  have R4a : Hid (∀ W : World, ReadsU (W.alloc (.cells #[.int .u8 0, .int .u8 1, .int .u8 7, .int .u8 0] 5)) (.slice (some ⟨W.heap.size, 0, none⟩) 4 4) [0, 1, 7, 0]) := fun W => readsU_lit (heap_alloc_new W (.cells #[.int .u8 0, .int .u8 1, .int .u8 7, .int .u8 0] 5)) [0, 1, 7, 0] 4 rfl (isB_dec (by decide)) rfl (by decide)
  have R3a : Hid (∀ W : World, ReadsU (W.alloc (.cells #[.int .u8 0, .int .u8 1, .int .u8 7] 5)) (.slice (some ⟨W.heap.size, 0, none⟩) 3 3) [0, 1, 7]) := fun W => readsU_lit (heap_alloc_new W (.cells #[.int .u8 0, .int .u8 1, .int .u8 7] 5)) [0, 1, 7] 3 rfl (isB_dec (by decide)) rfl (by decide)
  have LR : Hid ((rcd [7]).length = 7) := rcd_len _
  go_enter Try.func16, Try.ntmps16
  go_wp2_with (first
    | (go_at_call 9; (with_reducible refine (tk_sum _ _ R9.out).mono ?_); rintro e w1 ⟨rfl, k1⟩; have K1 : Hid (Kpt w w1) := Lib.hid (ktr ((Kpt.refl w).alloc _) k1); clear k1)
    | (go_at_call 10; (with_reducible refine (tk_put _ _ (R7.out _)).mono ?_); rintro e w2 ⟨aq, cq, rfl, rt, k1⟩; have K2 := Lib.hid (ktr (K1.out.alloc _) k1); have RT := Lib.hid rt; clear k1 rt)
    | (go_at_call 10; (with_reducible refine (tk_bad _).mono ?_); rintro e w7 ⟨rfl, k1⟩; have K7 := Lib.hid (ktr K6.out k1); have RL6 := Lib.hid (RL5.out.kpt k1); have RC7 := Lib.hid (RC6.out.kpt k1); clear k1)
    | (at_builtin; refine wp_appendU rfl (.tmp 24) (.tmp 25) rfl w2.heap.size _ _ [] (rcd [7]) _ rfl (OwnsU.empty w2 _ (Nat.le_refl _)) rfl (RT.out.kpt ((Kpt.refl _).alloc _)) (by rw [rcd_len]; decide) (by rw [World.size_alloc]; omega) ?_; intro v3 w3 o3 b3; have O3 := Lib.hid o3; have K3 : Hid (Kpt w2 w3) := Lib.hid (((Kpt.refl w2).alloc _).trans b3); clear o3 b3)
    | (at_builtin; refine wp_appendU rfl (.tmp 26) (.tmp 27) rfl w2.heap.size _ _ ([] ++ rcd [7]) [0, 1, 7, 0] _ rfl (O3.out.kpt ((Kpt.refl _).alloc _)) rfl (R4a.out _) (by rw [List.nil_append, rcd_len]; decide) (by rw [World.size_alloc]; have := Below.size K3.out; omega) ?_; intro v4 w4 o4 b4; have R4 := Lib.hid ((by rw [List.nil_append] at o4; exact o4.reads (isB_app.2 ⟨rcd_is (isB_dec (by decide)), isB_dec (by decide)⟩) (by rw [List.length_append, rcd_len]; decide)) : ReadsU w4 v4 (rcd [7] ++ [0, 1, 7, 0])); have K34 : Hid (Kpt w2 w4) := Lib.hid (((K3.out).alloc _).trans b4); have K4 := Lib.hid (ktr K2.out K34.out); have RT4 := Lib.hid (RT.out.kpt K34.out); clear o4 b4)
    | (go_at_call 11; (with_reducible refine (tk_get _ _ R4.out).mono ?_); rintro e w5 ⟨l5, rfl, r5, k1⟩; have K5 := Lib.hid (ktr K4.out k1); have RL5 := Lib.hid r5; have RT5 := Lib.hid (RT4.out.kpt k1); clear k1 r5)
    | (go_at_call 12; (with_reducible refine (tk_torn _ _ RT5.out).mono ?_); rintro e w6 ⟨u6, rfl, r6, k1⟩; have K6 := Lib.hid (ktr K5.out k1); have RC6 := Lib.hid r6; have RL5 := Lib.hid (RL5.out.kpt k1); clear k1 r6)
    | (go_at_call 18; (with_reducible refine (samS_run _ _ _ _ (RL6.out.kpt (((Kpt.refl _).alloc _).alloc _)) (RS.out _)).mono ?_); rintro e w8 ⟨rfl, k1⟩; have K8 := Lib.hid (ktr ((K7.out.alloc _).alloc _) k1); have RC8 := Lib.hid ((RC7.out.kpt (((Kpt.refl _).alloc _).alloc _)).kpt k1); clear k1)
    | (go_at_call 17; (with_reducible refine (samU_run _ _ _ _ (RC8.out.kpt ((Kpt.refl _).alloc _)) (R3a.out _)).mono ?_); rintro e w9 ⟨rfl, rfl⟩))
  go_ret
  exact ⟨rfl, K8.out.alloc _⟩

end Go.Proofs.Ytljdffkelocfbaa
