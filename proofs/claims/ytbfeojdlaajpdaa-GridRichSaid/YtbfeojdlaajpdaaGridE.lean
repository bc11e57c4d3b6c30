/-
  What settle of package grid does.
-/
import Derived.Test.YtbfeojdlaajpdaaGridD
namespace Go.Proofs.Ytbfeojdlaajpdaa
open Go.RowKit
set_option linter.unusedVariables false

/-- indices as the program has them -/
def ints (ds : List Nat) : List Int := ds.map fun n : Nat => (n : Int)
theorem ints_len (ds : List Nat) : (ints ds).length = ds.length := List.length_map _
theorem cast_at (ds : List Nat) (k : Nat) : (ints ds).getD k 0 = ((ds.getD k 0 : Nat) : Int) := by
  unfold ints
  rw [List.getD_eq_getElem?_getD, List.getElem?_map, List.getD_eq_getElem?_getD]
  cases ds[k]? <;> rfl
theorem take_snoc {ds : List Nat} {k : Nat} (hk : k < ds.length) : ds.take (k + 1) = ds.take k ++ [ds.getD k 0] := by
  rw [List.take_succ_eq_append_getElem hk, List.getD_eq_getElem?_getD, List.getElem?_eq_getElem hk]; rfl
theorem pay_two {has : List Int} {f t : Nat} {A H J : Int} (hft : ¬ f = t) (hf : has.getD f 0 = H) (ht : has.getD t 0 = J) : pay has ((f : Int), (t : Int), A) = (has.set f (H - A)).set t (J + A) := by
  unfold pay
  simp only [Int.toNat_natCast, hf]
  rw [show (has.set f (H - A)).getD t 0 = J by rw [List.getD_eq_getElem?_getD, List.getElem?_set, if_neg hft, ← List.getD_eq_getElem?_getD]; exact ht]

set_option maxHeartbeats 4000000 in
theorem settle_run (v vl vd : Value) (has : List Int) (ps : List (Int × Int × Int)) (ds : List Nat) (w : World) (hr : Reads w v has) (hp : ReadsP w vl ps) (hd : Reads w vd (ints ds)) (hg : gridE has ps = 0) (hi : incN 0 ds) (hl : ∀ i ∈ ds, i < ps.length) :
    Calls Try.prog 47 #[v, vl, vd] w fun e w' => (∃ g cap, e = .returned (.slice (some ⟨g, 0, none⟩) 31 cap) ∧ 31 ≤ cap ∧ w.heap.size ≤ g ∧ OwnI w' g (settleF ps has ds)) ∧ Kpt w w' := by
  obtain ⟨h31, hz, hm, hdu, hs⟩ := grid_0 hg
  have CL := Lib.hid (cloneI_run v has w hr h31)
  have hdl := hd.len
  have hplen := hp.len
  unfold maxLen at hdl hplen
  rw [ints_len] at hdl
  have HC := Lib.hid (Reads.fitAt hd)
  obtain ⟨da, dcap, rfl, -⟩ := id hd
  obtain ⟨pa, pcap, rfl, -, -, -, hpc⟩ := hp
  unfold Hid at HC
  simp only [ints_len, cast_at] at HC
  have HC := Lib.hid HC
  have HP := Lib.hid hpc
  have HB := Lib.hid (fun k q (hq : q < 31) => settle_bd hdu (incN_take hi k) (fun i h => hl i (List.mem_of_mem_take h)) h31 hz hs q hq)
  have HL := Lib.hid hl
  have HD := Lib.hid hdu
  have HLEN := Lib.hid (fun k => (settle_len ps (ds.take k) has).trans h31)
  clear hr hd hpc hg hi hl hz hdu hs hm
  rw [ints_len]
  go_enter Try.func47, Try.ntmps47
  go_wp2_with (go_at_call 77; (with_reducible refine CL.out.mono ?_); rintro e w1 ⟨⟨g, cap, rfl, hcap, hgw, ho⟩, hk1⟩; have HO1 := Lib.hid ho; have HK1 := Lib.hid hk1; clear ho hk1)
  go_loopw [15] (fun i wr => ∃ k : Nat, k ≤ ds.length ∧ i = .int .i64 k ∧ Hid (OwnI wr g (settleF ps has (ds.take k))) ∧ Hid (Kpt w wr)) (fun i _ => ds.length - (intOf i).toNat)
  case atStart => exact ⟨0, Nat.zero_le _, rfl, HO1.out, HK1.out⟩
  case round =>
    obtain ⟨k, hk, rfl, HO, HK⟩ := hrel
    by_cases hlt : k < ds.length
    · obtain ⟨db, doff, e, hc⟩ := HC.out k hlt
      injection e with e1 _ _
      subst e1
      have c0 := HK.out.cell hc
      have hmem : ds.getD k 0 ∈ ds := by rw [List.getD_eq_getElem?_getD, List.getElem?_eq_getElem hlt]; simp
      have hq := HL.out _ hmem
      have hsn : settleF ps has (ds.take (k + 1)) = pay (settleF ps has (ds.take k)) (ps.getD (ds.getD k 0) default) := by rw [take_snoc hlt, settle_snoc]
      have hb0 := HB.out k
      have hb1 := HB.out (k + 1)
      have hlen := HLEN.out k
      rw [hsn] at hb1
      have HSN := Lib.hid hsn
      clear hc hmem hsn
      generalize ds.getD k 0 = i at c0 hq hb1 HSN
      obtain ⟨x, off, rfl, hpt⟩ := HP.out i hq
      obtain ⟨p0, p1, p2⟩ := hpt.kpt HK.out
      have hdue := HD.out _ (getP_mem hq)
      clear hpt
      generalize ps.getD i default = p at p0 p1 p2 hdue hb1 HSN
      generalize settleF ps has (ds.take k) = L at HO hb0 hb1 hlen HSN
      obtain ⟨hdb, hne⟩ := hdue
      have hb := due_t hdb
      obtain ⟨F, T, A⟩ := p
      simp only at p0 p1 p2 hb hne
      obtain ⟨f, rfl⟩ : ∃ f : Nat, F = (f : Int) := ⟨F.toNat, by omega⟩
      obtain ⟨t, rfl⟩ : ∃ t : Nat, T = (t : Int) := ⟨T.toNat, by omega⟩
      have hf : f < 31 := by omega
      have ht : t < 31 := by omega
      have hft : ¬ f = t := by omega
      have HF0 := hb0 f hf
      have HT0 := hb0 t ht
      have cf := HO.out.cell (show f < L.length by omega)
      have ct := HO.out.cell (show t < L.length by omega)
      have ff := HO.out.frozen f
      have ft := HO.out.frozen t
      have HPAY : Hid (∀ H J, L.getD f 0 = H → L.getD t 0 = J → pay L ((f : Int), (t : Int), A) = (L.set f (H - A)).set t (J + A)) := fun H J h1 h2 => pay_two hft h1 h2
      have HPAY2 := Lib.hid (HPAY.out _ _ rfl rfl)
      clear HPAY hb0 hb1 hdb hne
      generalize L.getD f 0 = H at cf HF0 HPAY2
      generalize L.getD t 0 = J at ct HT0 HPAY2
      have e1 : IntKind.i64.wrap (H - A) = H - A := by unfold IntKind.wrap; simp [IntKind.bits, IntKind.signed]; omega
      have e2 : IntKind.i64.wrap (J + A) = J + A := by unfold IntKind.wrap; simp [IntKind.bits, IntKind.signed]; omega
      go_wp2
      have hgB := HO.out.lt
      have HOA := Lib.hid (HO.out.alloc (.cells #[.int .i64 (f : Int), .int .i64 (t : Int), .int .i64 A] 38))
      have BL := Blk.made wr #[.int .i64 (f : Int), .int .i64 (t : Int), .int .i64 A] 38
      have HKA := Lib.hid (HK.out.alloc (.cells #[.int .i64 (f : Int), .int .i64 (t : Int), .int .i64 A] 38))
      have cfA := ((Kpt.refl wr).alloc (.cells #[.int .i64 (f : Int), .int .i64 (t : Int), .int .i64 A] 38)).cell cf
      have ctA := ((Kpt.refl wr).alloc (.cells #[.int .i64 (f : Int), .int .i64 (t : Int), .int .i64 A] 38)).cell ct
      clear cf ct ff ft c0 p0 p1 p2
      generalize wr.alloc (.cells #[.int .i64 (f : Int), .int .i64 (t : Int), .int .i64 A] 38) = W at HOA BL HKA cfA ctA ⊢
      generalize wr.heap.size = B at hgB BL ⊢
      have d0 : W.cell? ⟨B, 0, none⟩ = some (.int .i64 (f : Int)) := BL.cell 0
      have d1 : W.cell? ⟨B, 1, none⟩ = some (.int .i64 (t : Int)) := BL.cell 1
      have d2 : W.cell? ⟨B, 2, none⟩ = some (.int .i64 A) := BL.cell 2
      have fr := HOA.out.frozen f
      have x1 : (f : Int) < 31 := by omega
      have x2 : (t : Int) < 31 := by omega
      go_region
      have HO2 : Hid (OwnI (W.setCell ⟨g, f, none⟩ (.int .i64 (H - A))).drew g (L.set f (H - A))) := (HOA.out.put f (H - A)).drew
      have BL2 : Hid (Blk (W.setCell ⟨g, f, none⟩ (.int .i64 (H - A))).drew B #[.int .i64 (f : Int), .int .i64 (t : Int), .int .i64 A] 38) := (BL.away (by simp; omega) _).drew
      have HK2 : Hid (Kpt w (W.setCell ⟨g, f, none⟩ (.int .i64 (H - A))).drew) := (Kpt.setCell HKA.out hgw _).drewN 1
      have ct2 : (W.setCell ⟨g, f, none⟩ (.int .i64 (H - A))).drew.cell? ⟨g, t, none⟩ = some (.int .i64 J) := (World.cell?_setCell_other W _ _ _ (by intro e; injection e; omega)).trans ctA
      clear HOA BL HKA cfA ctA d0 d1 d2 fr
      generalize (W.setCell ⟨g, f, none⟩ (.int .i64 (H - A))).drew = W2 at HO2 BL2 HK2 ct2 ⊢
      have d0 : W2.cell? ⟨B, 0, none⟩ = some (.int .i64 (f : Int)) := BL2.out.cell 0
      have d1 : W2.cell? ⟨B, 1, none⟩ = some (.int .i64 (t : Int)) := BL2.out.cell 1
      have d2 : W2.cell? ⟨B, 2, none⟩ = some (.int .i64 A) := BL2.out.cell 2
      have fr := HO2.out.frozen t
      go_wp2
      go_region
      have HO3 : Hid (OwnI (W2.setCell ⟨g, t, none⟩ (.int .i64 (J + A))).drew g ((L.set f (H - A)).set t (J + A))) := (HO2.out.put t (J + A)).drew
      have HK3 : Hid (Kpt w (W2.setCell ⟨g, t, none⟩ (.int .i64 (J + A))).drew) := (Kpt.setCell HK2.out hgw _).drewN 1
      generalize (W2.setCell ⟨g, t, none⟩ (.int .i64 (J + A))).drew = W3 at HO3 HK3 ⊢
      have HO4 : Hid (OwnI W3 g (settleF ps has (ds.take (k + 1)))) := by unfold Hid; rw [HSN.out, HPAY2.out]; exact HO3.out
      clear d0 d1 d2 fr HO2 BL2 HK2 ct2 HO3
      go_wp2
      go_roundw
      case rel => exact ⟨k + 1, by omega, by go_num, HO4.out, HK3.out⟩
      case measure => simp [intOf]; omega
    · obtain rfl : k = ds.length := by omega
      rw [List.take_of_length_le (Nat.le_refl _)] at HO
      go_wp2
      go_ret
      exact ⟨⟨g, cap, rfl, hcap, hgw, HO.out⟩, HK.out⟩

end Go.Proofs.Ytbfeojdlaajpdaa
