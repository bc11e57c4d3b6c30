/-
  Records in memory; what SameBytes and SameRecords of the reference do.
-/
import Derived.Test.YtljdffkelocfbaaTapI
import Derived.Test.YtljdffkelocfbaaQuietK
import Derived.Laws.BytesString
namespace Go.Proofs.Ytljdffkelocfbaa
open Go.RowKit
set_option linter.unusedVariables false

def strOf (bs : List Nat) : ByteArray := (bs.map fun n : Nat => (n : Int)).foldl (fun r n => r.push (UInt8.ofNat n.toNat)) ByteArray.empty
theorem conv_run (v : Value) (bs : List Nat) (w : World) (h : ReadsU w v bs) : (convert 22 9 v).run Try.prog w = .ok (.string (strOf bs)) w := by
  obtain ⟨a, cap, rfl, h1, h2, h3, h4, hc⟩ := h
  rw [run_convert_bytes_string w _ _ 5 _ _ _ Try.underlying22 Try.underlying5 Try.underlying9]
  cases a with
  | none =>
    obtain rfl : bs = [] := List.eq_nil_of_length_eq_zero (by have := h3 rfl; omega)
    rfl
  | some x =>
    refine run_bytesToString w x bs.length cap (bs.map fun n : Nat => (n : Int)) ?_
    have e : (bs.map fun n : Nat => (n : Int)).map (Value.int .u8) = bs.map u8v := by rw [List.map_map]; rfl
    rw [e]
    have := run_loadCells_list (P := Try.prog) (w := w) x (bs.map u8v) (fun j v hv => by
      have hj : j < bs.length := by
        have := (List.getElem?_eq_some_iff.1 hv).1
        simpa using this
      rw [map_u8 bs j hj] at hv
      obtain ⟨b, off, e, hcell⟩ := hc j hj
      obtain rfl := Option.some.inj e
      rw [← hv, show (⟨b, off, none⟩ : Addr).add j = ⟨b, off + j, none⟩ by simp [Addr.add]]
      exact hcell)
    simpa using this
theorem samU_run (v u : Value) (bs : List Nat) (w : World) (h1 : ReadsU w v bs) (h2 : ReadsU w u bs) : Calls Try.prog 17 #[v, u] w fun e w' => e = .returned (.bool true) ∧ w = w' := by
  have c1 := conv_run v bs w h1
  have c2 := conv_run u bs w h2
  clear h1 h2
  generalize strOf bs = s at c1 c2
  go_enter Try.func17, Try.ntmps17
  go_wp2
  go_ret
  exact ⟨rfl, rfl⟩

/-- the slice v reads as these records -/
def ReadsS (w : World) (v : Value) (L : List (List Nat)) : Prop :=
  ∃ (a : Option Addr) (cap : Nat), v = .slice a L.length cap ∧ L.length ≤ cap ∧ (cap ≤ maxLen ∧ L.length ≤ 1000000) ∧ (a = none → cap = 0) ∧ ∀ k, k < L.length → ∃ b off u, a = some ⟨b, off, none⟩ ∧ w.cell? ⟨b, off + k, none⟩ = some u ∧ ReadsU w u (L.getD k [])
theorem ReadsS.kpt {w w' : World} {v : Value} {L : List (List Nat)} (h : ReadsS w v L) (k : Kpt w w') : ReadsS w' v L := by
  obtain ⟨a, cap, rfl, h1, h2, h3, hc⟩ := h
  refine ⟨a, cap, rfl, h1, h2, h3, fun j hj => ?_⟩
  obtain ⟨b, off, u, rfl, q1, q2⟩ := hc j hj
  exact ⟨b, off, u, rfl, k.cell q1, q2.kpt k⟩
theorem ReadsS.form {w : World} {v : Value} {L : List (List Nat)} (h : ReadsS w v L) : ∃ a cap, v = .slice a L.length cap ∧ L.length ≤ cap ∧ cap ≤ maxLen ∧ L.length ≤ 1000000 ∧ (a = none → cap = 0) := by
  obtain ⟨a, cap, rfl, h1, h2, h3, hc⟩ := h
  exact ⟨a, cap, rfl, h1, h2.1, h2.2, h3⟩
theorem ReadsS.at_ {w : World} {a : Option Addr} {n cap : Nat} {L : List (List Nat)} (h : ReadsS w (.slice a n cap) L) {k : Nat} (hk : k < L.length) : ∃ b off u, a = some ⟨b, off, none⟩ ∧ w.cell? ⟨b, off + k, none⟩ = some u ∧ ReadsU w u (L.getD k []) := by
  obtain ⟨a', cap', e, -, -, -, hc⟩ := h
  injection e with e1 e2 e3
  rw [e1]; exact hc k hk
theorem getS_take {L : List (List Nat)} {n j : Nat} (h : j < n) : (L.take n).getD j [] = L.getD j [] := by
  rw [List.getD_eq_getElem?_getD, List.getD_eq_getElem?_getD, List.getElem?_take_of_lt h]
theorem ReadsS.take {w : World} {a : Option Addr} {m cap : Nat} {L : List (List Nat)} (h : ReadsS w (.slice a m cap) L) {n : Nat} (hn : n ≤ L.length) : ReadsS w (.slice a n cap) (L.take n) := by
  obtain ⟨a', cap', e, h1, h2, h3, hc⟩ := h
  injection e with e1 e2 e3
  subst e1 e3
  have hl : (L.take n).length = n := by rw [List.length_take]; omega
  refine ⟨_, cap, by rw [hl], by omega, ⟨h2.1, by omega⟩, h3, fun j hj => ?_⟩
  obtain ⟨b, off, u, e, q1, q2⟩ := hc j (by omega)
  exact ⟨b, off, u, e, q1, by rw [getS_take (by omega)]; exact q2⟩
theorem recs_isB {t : List Nat} (h : IsB t) (k : Nat) (hk : k < (recs t).length) : IsB ((recs t).getD k []) := by
  rw [← (rec_is hk).2.1]
  intro b hb
  unfold bdy at hb
  exact h b (List.mem_of_mem_drop (List.mem_of_mem_drop (List.mem_of_mem_take hb)))
theorem readsS_own {t : List Nat} {w : World} {base : Nat} {v : Value} {us : List Value} (hb : IsB t) (h4 : t.length ≤ 4000) (ho : OwnsS w base v us) (hl : us.length = (recs t).length) (he : ∀ k, k < us.length → OwnsU w base (us.getD k undef) ((recs t).getD k [])) : ReadsS w v (recs t) := by
  have hf := recs_few t
  rcases ho.2 with ⟨rfl, hn⟩ | ⟨k, cap, cur, rfl, hk, hh, hn, hm, hs, ht⟩
  · refine ⟨none, 0, by rw [← hl, hn], by omega, ⟨Nat.zero_le _, by omega⟩, fun _ => rfl, fun j hj => by omega⟩
  · refine ⟨_, cap, by rw [hl], by omega, ⟨hm, by omega⟩, (fun e => by cases e), fun j hj => ⟨k, 0, us.getD j undef, rfl, ?_, ?_⟩⟩
    · rw [Nat.zero_add, cell_of_row w k j cur _ (0, 0) hh, ← Array.getElem?_toList]
      have : (cur.toList.take (us.length * 1))[j]? = us[j]? := by rw [ht]
      rw [List.getElem?_take_of_lt (by omega)] at this
      rw [this, List.getD_eq_getElem?_getD, List.getElem?_eq_getElem (by omega)]; rfl
    · exact (he j (by omega)).reads (recs_isB hb j hj) (by have := recL_len j hj; omega)
theorem samS_none (a1 a2 : Option Addr) (c1 c2 : Nat) (w : World) : Calls Try.prog 18 #[.slice a1 0 c1, .slice a2 0 c2] w fun e w' => e = .returned (.bool true) ∧ Kpt w w' := by
  go_enter Try.func18, Try.ntmps18
  go_wp2
  go_loop [5] (fun i => i = .int .i64 0) (fun _ => 0)
  case atStart => exact rfl
  case round =>
    obtain rfl := hrel
    go_wp2
    go_ret
    exact ⟨rfl, Kpt.refl _⟩
set_option maxHeartbeats 1000000 in
theorem samS_run (v u : Value) (L : List (List Nat)) (w : World) (h1 : ReadsS w v L) (h2 : ReadsS w u L) : Calls Try.prog 18 #[v, u] w fun e w' => e = .returned (.bool true) ∧ Kpt w w' := by
  obtain ⟨a1, c1, rfl, -, -, hm, -⟩ := h1.form
  obtain ⟨a2, c2, rfl, -, -, -, -⟩ := h2.form
  by_cases h0 : L.length = 0
  · rw [h0]; exact samS_none a1 a2 c1 c2 w
  · obtain ⟨b1, o1, -, rfl, -⟩ := h1.at_ (k := 0) (by omega)
    obtain ⟨b2, o2, -, rfl, -⟩ := h2.at_ (k := 0) (by omega)
    have H1 := Lib.hid h1; have H2 := Lib.hid h2
    have mixed : Try.prog.follows .mixedOrders = true := by kernel_rfl
    clear h1 h2 h0
    go_enter Try.func18, Try.ntmps18
    go_wp2
    go_loopw [5] (fun i wr => ∃ k : Nat, k ≤ L.length ∧ i = .int .i64 k ∧ Hid (Kpt w wr)) (fun i _ => L.length - (intOf i).toNat)
    case atStart => exact ⟨0, Nat.zero_le _, rfl, Kpt.refl _⟩
    case round =>
      obtain ⟨k, hk, rfl, HK⟩ := hrel
      by_cases hlt : k < L.length
      · obtain ⟨b1', o1', u1, e, q1, r1⟩ := (H1.out.kpt HK.out).at_ hlt
        injection e with e
        injection e with e1 e2 _
        subst e1 e2
        obtain ⟨b2', o2', u2, e, q2, r2⟩ := (H2.out.kpt HK.out).at_ hlt
        injection e with e
        injection e with e1 e2 _
        subst e1 e2
        obtain ⟨x1, y1, rfl, -⟩ := r1.form
        obtain ⟨x2, y2, rfl, -⟩ := r2.form
        have d1 := cell_k (q := wr) q1
        have d2 := cell_k (q := wr) q2
        have SU := Lib.hid (fun p : KptTo wr => samU_run _ _ _ p.w (r1.kpt p.h) (r2.kpt p.h))
        clear q1 q2 r1 r2
        generalize (L.getD k []).length = n at *
        have b0 : (0 : Int) ≤ (k : Int) := by omega
        have b3 : (k : Int) < (L.length : Int) := by omega
        go_wp2
        refine quiet_k (q := wr) mixed (by kernel_rfl) ?_
        repeat (quiet_step (first | (go_at_call 17; with_reducible refine calls_same (SU.out _))))
        refine wpQuiet_nil ?_
        intro w8 hw1
        obtain ⟨⟨wz, kz⟩, hw2⟩ := hw1
        have hw3 : w8 = wz := hw2
        clear hw2
        subst hw3
        go_wp2
        go_roundw
        case rel => exact ⟨k + 1, by omega, by go_num, ktr HK.out kz⟩
        case measure => simp [intOf]; omega
      · go_wp2
        go_ret
        exact ⟨rfl, HK.out⟩

end Go.Proofs.Ytljdffkelocfbaa
