/-
  CalHoliday: the law answers true.
-/
import Derived.Test.YtgkhcjnehmfgiaaDoorHolMath
import Derived.Test.YtgkhcjnehmfgiaaDoorOwn
import Derived.Test.YtgkhcjnehmfgiaaDoorBlk
import Derived.Deep.RegionHeld3
import Derived.Deep.AppendLies
namespace Go.Proofs.YtgkhcjnehmfgiaaDoor
open Go.RowKit
set_option linter.unusedVariables false

/-- an append onto a slice of the call's own, at a step of a region that draws -/
theorem step_append_mine {P : Program} {w : World} {ops : Array Oper} {o : Oper} {a : Act} {K : Act → World → Prop} {Q : Exit → Act → World → Prop} {E : Prop} (hgd : o.guard = none) (s x : Operand) (t : TypeId)
    (ho : o.op = .call { callee := .builtin .append, args := #[s, x], argTypes := #[t, t] })
    (base : Nat) (e : TypeId) (i : TypeInfo) (z : Value) (size bytes : Nat) (ht : P.underlying t = some (.slice e)) (hi : P.info? e = some i) (hz : i.zero = some z)
    (hsize : i.size = size) (hby : i.bytes = bytes) (hzs : z.cells.size = size) (hsz : 0 < size)
    (v : Value) (n : Nat) (xs : List Value) (hs : a.eval s = v) (hown : w.ownsRow base e size v n xs)
    (ad : Addr) (m c : Nat) (news : List Value) (hx : a.eval x = .slice (some ad) m c) (hl : news.length = m * size) (hnews : ∀ j u, news[j]? = some u → w.cell? (ad.add j) = some u) (h1 : ∀ u ∈ news, u.oneCell' = true)
    (h63 : n + m ≤ maxLen) (hbytes : (n + m) * bytes ≤ 140737488355328) (hbase : base ≤ w.heap.size)
    (h : ∀ a' cap w', w'.ownsRow base e size (.slice a' (n + m) cap) (n + m) (xs ++ news) → w.grownBy w' v.ownBlock → K (a.put o.dst (.slice a' (n + m) cap)) w') :
    if Region.wanted o (yielded ops a.tmps) = true then Oper.wp P o a w K Q else E := by
  have hw : Region.wanted o (yielded ops a.tmps) = true := by simp [Region.wanted, hgd]
  rw [if_pos hw]
  obtain ⟨v', w', hr, h2, h3, _, _⟩ := run_append_own_at (P := P) w base t o.type e i z size bytes ht hi hz hsize hby hzs hsz v n xs hown ad m c news hl hnews h1 h63 hbytes hbase
  obtain ⟨a', cap, rfl⟩ : ∃ a' cap, v' = .slice a' (n + m) cap := by
    rcases h2.2 with ⟨e1, e2⟩ | ⟨g, cap, cur, hv, _⟩
    · exact ⟨none, 0, by rw [e1, e2]⟩
    · exact ⟨_, cap, hv⟩
  unfold Oper.wp execOp
  simp only [ho, resolve, invoke, builtin, Sem.run_bind, Sem.run_pure, Result.andThen_ok, List.map_toArray, List.map_cons, List.map_nil, hs, hx, hr]
  exact h a' cap w' h2 h3

theorem owns_empty (w : World) (o : Obj) : World.ownsRow (((w.alloc o).alloc (.cells #[] 3)).drew) (w.heap.size + 1) 3 1 (.slice (some ⟨w.heap.size + 1, 0, none⟩) 0 0) 0 [] := by
  refine ⟨rfl, .inr ⟨w.heap.size + 1, 0, #[], rfl, Nat.le_refl _, ?_, Nat.le_refl _, Nat.zero_le _, rfl, rfl⟩⟩
  have := Blk.made (w.alloc o) #[] 3
  rw [World.size_alloc] at this
  exact this
theorem own_ge {w : World} {base : Nat} {e : TypeId} {size : Nat} {v : Value} {n : Nat} {xs : List Value} (h : w.ownsRow base e size v n xs) : ∀ k, v.ownBlock = some k → base ≤ k := by
  intro k hk
  rcases h.2 with ⟨rfl, _⟩ | ⟨g, cap, cur, rfl, hg, _⟩
  · simp [Value.ownBlock] at hk
  · simp [Value.ownBlock] at hk; omega
theorem own_ne {w : World} {base : Nat} {e : TypeId} {size : Nat} {v : Value} {n : Nat} {xs : List Value} (h : w.ownsRow base e size v n xs) {k : Nat} (hk : k < base) : some k ≠ v.ownBlock := fun e => by
  have := own_ge h k e.symm; omega
theorem own_away {w : World} {base : Nat} {e : TypeId} {size : Nat} {v : Value} {n : Nat} {xs : List Value} (h : w.ownsRow base e size v n xs) {p : Addr} (hp : p.block < base) (u : Value) : (w.setCell p u).ownsRow base e size v n xs := by
  obtain ⟨h1, h2⟩ := h
  refine ⟨h1, ?_⟩
  rcases h2 with h2 | ⟨g, cap, cur, rfl, hg, hh, r⟩
  · exact .inl h2
  · exact .inr ⟨g, cap, cur, rfl, hg, (Below.heap_setCell w p u g (by omega)).trans hh, r⟩
theorem own_reads {w : World} {base n : Nat} {v : Value} {zs : List Int} {xs : List Value} (h : w.ownsRow base 3 1 v n xs) (hx : xs = zs.map (Value.int .i64)) (hn : n = zs.length) : Reads w v zs := by
  subst hx; subst hn
  obtain ⟨a, cap, hv, hr⟩ := Owns.reads (w := w) (base := base) (v := v) (zs := zs) h
  exact hr
theorem less_row (hs : List Int) (k : Nat) : [] ++ ((hs.drop 0).take k).map (Value.int .i64) ++ ((hs.drop (k + 1)).take (hs.length - (k + 1))).map (Value.int .i64) = (lessOf hs k).map (Value.int .i64) := by
  unfold lessOf
  rw [List.drop_zero, List.nil_append, List.map_append, List.take_of_length_le (l := hs.drop (k + 1)) (by rw [List.length_drop]; omega)]
theorem end_none (hs : List Int) (k : Nat) (h : hs.length = k + 1) (w' : World) (ad : Addr) : ∀ (j : Nat) (u : Value), (((hs.drop (k + 1)).take (hs.length - (k + 1))).map (Value.int .i64))[j]? = some u → w'.cell? (ad.add j) = some u := fun j u hu => by
  rw [show hs.length - (k + 1) = 0 by omega, List.take_zero, List.map_nil] at hu
  simp at hu
theorem cell_two {w : World} {p : Addr} {v : Value} (h : w.cell? p = some v) (o o' : Obj) : (((w.alloc o).alloc o').drew).cell? p = some v :=
  ((Kpt.refl _).alloc o |>.alloc o').cell h
theorem grown_cell {w w' : World} {row : Option Nat} (g : w.grownBy w' row) {p : Addr} {v : Value} (hc : w.cell? p = some v) (hne : some p.block ≠ row) : w'.cell? p = some v :=
  (World.cell?_of_block (g.block p.block (cell_in hc) hne)).trans hc
theorem Blk.grown {w w' : World} {row : Option Nat} {g : Nat} {cs : Array Value} {T : TypeId} (h : Blk w g cs T) (r : w.grownBy w' row) (hne : some g ≠ row) : Blk w' g cs T := h.block (r.block g h.lt hne)
theorem kpt_grown {w w1 w2 : World} {row : Option Nat} (h : Kpt w w1) (g : w1.grownBy w2 row) (hr : ∀ k, row = some k → w.heap.size ≤ k) : Kpt w w2 := Below.grown h g h.size hr

set_option maxRecDepth 100000 in
set_option maxHeartbeats 4000000 in
theorem calHoliday_at (W : Int) (k : Nat) (f t n : Int) (b off cap : Nat) (hs : List Int) (w : World) (ht : Tab w) (hr : Reads w (.slice (some ⟨b, off, none⟩) hs.length cap) hs) (hf : Fits hs) (hE : calE W hs = 0) (hk : k < hs.length)
    (hcap : hs.length ≤ cap) (hlast : ¬ cap = k + 1) (hcl : cap ≤ maxLen) (hc : ∀ j, j < hs.length → w.cell? ⟨b, off + j, none⟩ = some (.int .i64 (hs.getD j 0))) :
    Calls Tryd.prog 4 #[calV W (.slice (some ⟨b, off, none⟩) hs.length cap), .int .i64 (k : Int), .int .i64 f, .int .i64 t, .int .i64 n] w fun r w' => r = .returned (.bool true) ∧ Kpt w w' := by
  have hm := hr.len
  unfold maxLen at hm hcl
  obtain ⟨-, -, h60, -⟩ := cal_right hE
  have k0 : Kpt w (w.alloc (.cells #[.int .i64 W, .slice (some ⟨b, off, none⟩) hs.length cap] 24)) := (Kpt.refl _).alloc _
  have G := Lib.hid k0
  have c0 : (w.alloc (.cells #[.int .i64 W, .slice (some ⟨b, off, none⟩) hs.length cap] 24)).cell? ⟨w.heap.size, 0, none⟩ = some (.int .i64 W) := by simp [go_sem]
  have c1 : (w.alloc (.cells #[.int .i64 W, .slice (some ⟨b, off, none⟩) hs.length cap] 24)).cell? ⟨w.heap.size, 1, none⟩ = some (.slice (some ⟨b, off, none⟩) hs.length cap) := by simp [go_sem]
  have B := Lib.hid (fun w' (g : Kpt w w') => calBegun w' (ht.kpt g))
  have CK : Hid (∀ w', Kpt w w' → Calls Tryd.prog 16 #[calV W (.slice (some ⟨b, off, none⟩) hs.length cap)] w' fun e w'' => e = .returned (.int .i64 0) ∧ Kpt w' w'') := fun w' g => by
    have := calCheck_any W _ hs w' (hr.kpt g) hf
    rw [hE] at this
    exact this.mono fun e w'' h => ⟨h.1, h.2.kpt⟩
  have i0 : (0 : Int) ≤ (k : Int) := by omega
  have i1 : (k : Int) < (hs.length : Int) := by omega
  have HC := Lib.hid hc
  have HH := Lib.hid (fun w' (g : Kpt w w') => g.cell (hc k hk))
  have HF := Lib.hid (hol_facts hE hk f t n)
  have LF := Lib.hid (less_fits (k := k) (cal_strict hE).2)
  have RD := Lib.hid hr
  have FH := Lib.hid hf
  have LN := Lib.hid (less_len hk)
  generalize hs.getD k 0 = day at HH HF
  clear hr hf hE ht hc k0
  go_enter Tryd.func4, Tryd.ntmps4
  go_wp2_with (first
    | (go_at_call 15; (with_reducible refine (B.out _ G.out).mono ?_); rintro e w1 ⟨rfl, g1⟩; have c0 := g1.cell c0; have c1 := g1.cell c1; have G := Lib.hid (ktr G.out g1); clear g1)
    | (go_at_call 16; (with_reducible refine (CK.out _ G.out).mono ?_); rintro e w1 ⟨rfl, g1⟩; have c0 := g1.cell c0; have c1 := g1.cell c1; have G := Lib.hid (ktr G.out g1); have cd := HH.out _ G.out; clear g1))
  obtain ⟨i0', hi0, hz0, hz1, hz2⟩ := info_parts Tryd.infoInt
  have NW := Lib.hid (fun w' (g : Kpt w w') (lo m : Nat) (h : lo + m ≤ hs.length) j u (hu : (((hs.drop lo).take m).map (Value.int .i64))[j]? = some u) => (by
    have hj : j < m := by
      have := (List.getElem?_eq_some_iff.1 hu).1
      simp at this; omega
    have hlj : lo + j < hs.length := by omega
    rw [List.getElem?_map, List.getElem?_take_of_lt hj, List.getElem?_drop, List.getElem?_eq_getElem hlj] at hu
    have hadd : (⟨b, off + lo, none⟩ : Addr).add j = ⟨b, off + (lo + j), none⟩ := by simp [Addr.add, Nat.add_assoc]
    rw [hadd]
    have := g.cell (HC.out (lo + j) hlj)
    rw [this, ← Option.some.inj hu, List.getD_eq_getElem?_getD, List.getElem?_eq_getElem hlj]; rfl : w'.cell? ((⟨b, off + lo, none⟩ : Addr).add j) = some u))
  have sz := G.out.size
  have GS : Hid (Kpt w ((w1.alloc (.cells #[.int .i64 W, .slice (some ⟨b, off, none⟩) hs.length cap] 24)).drew)) := Below.drew (G.out.alloc _)
  have b1 : (0 : Int) ≤ (k : Int) := by omega
  have b2 : (k : Int) ≤ (cap : Int) := by omega
  have b3 : (0 : Int) ≤ (k : Int) + 1 := by omega
  have b4 : (k : Int) + 1 ≤ (hs.length : Int) := by omega
  have b5 : IntKind.i64.wrap ((k : Int) + 1) = (k : Int) + 1 := IntWalk.i64_in _ (by omega)
  have b6 : ((k : Int) + 1).toNat = k + 1 := by omega
  have b7 : ¬ (cap = k + 1) := by omega
  have b8 : ¬ (cap = k) := by omega
  clear GS
  have EB : Hid (World.ownsRow (((w1.alloc (.cells #[.int .i64 W, .slice (some ⟨b, off, none⟩) hs.length cap] 24)).alloc (.cells #[] 3)).drew) (w1.heap.size + 1) 3 1 (.slice (some ⟨w1.heap.size + 1, 0, none⟩) 0 0) 0 []) := owns_empty w1 _
  have K2 : Hid (Kpt w (((w1.alloc (.cells #[.int .i64 W, .slice (some ⟨b, off, none⟩) hs.length cap] 24)).alloc (.cells #[] 3)).drew)) := Below.drew ((G.out.alloc _).alloc _)
  have B5 : Hid (Blk (((w1.alloc (.cells #[.int .i64 W, .slice (some ⟨b, off, none⟩) hs.length cap] 24)).alloc (.cells #[] 3)).drew) w1.heap.size #[.int .i64 W, .slice (some ⟨b, off, none⟩) hs.length cap] 24) := ((Blk.made w1 _ _).alloc _).drew
  have D0 := Lib.hid (cell_two c0 (.cells #[.int .i64 W, .slice (some ⟨b, off, none⟩) hs.length cap] 24) (.cells #[] 3))
  have D1 := Lib.hid (cell_two c1 (.cells #[.int .i64 W, .slice (some ⟨b, off, none⟩) hs.length cap] 24) (.cells #[] 3))
  have SL : Hid ((((hs.drop 0).take k).map (Value.int .i64)).length = k * 1) := (by simp; omega : (((hs.drop 0).take k).map (Value.int .i64)).length = k * 1)
  have SL2 : Hid ((((hs.drop (k + 1)).take (hs.length - (k + 1))).map (Value.int .i64)).length = (hs.length - (k + 1)) * 1) := (by simp : (((hs.drop (k + 1)).take (hs.length - (k + 1))).map (Value.int .i64)).length = (hs.length - (k + 1)) * 1)
  have z0 : w.heap.size < w1.heap.size := cell_in c0
  have Q1 := Lib.hid (NW.out _ K2.out 0 k (by omega))
  have one : ∀ (l : List Int), ∀ u ∈ l.map (Value.int .i64), u.oneCell' = true := fun l u hu => by
    obtain ⟨x, _, rfl⟩ := List.mem_map.1 hu
    rfl
  have O1 := Lib.hid one
  clear one
  have m1 : 0 + k ≤ maxLen := by unfold maxLen; omega
  have m2 : (0 + k) * 8 ≤ 140737488355328 := by omega
  have m3 : 0 + k + (hs.length - (k + 1)) ≤ maxLen := by unfold maxLen; omega
  have m4 : (0 + k + (hs.length - (k + 1))) * 8 ≤ 140737488355328 := by omega
  have z1 : w.heap.size < w1.heap.size + 1 := by omega
  have z2 : w1.heap.size < w1.heap.size + 1 := by omega
  have z3 : w.heap.size ≤ w1.heap.size + 1 := by omega
  have S1 : Hid (w1.heap.size + 1 ≤ (((w1.alloc (.cells #[.int .i64 W, .slice (some ⟨b, off, none⟩) hs.length cap] 24)).alloc (.cells #[] 3)).drew).heap.size) := (by simp : w1.heap.size + 1 ≤ (((w1.alloc (.cells #[.int .i64 W, .slice (some ⟨b, off, none⟩) hs.length cap] 24)).alloc (.cells #[] 3)).drew).heap.size)
  have z4 : w1.heap.size ≠ w.heap.size := by omega
  have l4 : k + 1 + (hs.length - (k + 1)) ≤ hs.length := by omega
  go_region_held3 (fun w' => w'.cell? ⟨w.heap.size, 1, none⟩ = some (.slice (some ⟨b, off, none⟩) hs.length cap))
    ((first | exact D1.out | assumption | exact set_far (p := ⟨w1.heap.size, 1, none⟩) z4 F1 | go_keep))
    (first
      | ((refine step_append_mine (by rfl) _ _ _ (by rfl) (w1.heap.size + 1) 3 i0' _ 1 8 Tryd.underlying22 hi0 hz0 hz1 hz2 rfl Nat.one_pos _ 0 [] (by rfl) EB.out ⟨b, off + 0, none⟩ k cap (((hs.drop 0).take k).map (Value.int .i64)) (by rfl) SL.out Q1.out (O1.out _) m1 m2 S1.out ?_); intro a1 cp1 w2 ho hg; have HO := Lib.hid ho; have E1 := grown_cell hg D1.out (own_ne EB.out z1); have E0 := grown_cell hg D0.out (own_ne EB.out z1); have B6 := Lib.hid (B5.out.grown hg (own_ne EB.out z2)); have K3 := Lib.hid (kpt_grown K2.out hg (fun q hq => Nat.le_trans z3 (own_ge EB.out q hq))); have SZ := Lib.hid hg.size; clear ho hg)
      | ((refine step_append_mine (by rfl) _ _ _ (by rfl) (w1.heap.size + 1) 3 i0' _ 1 8 Tryd.underlying22 hi0 hz0 hz1 hz2 rfl Nat.one_pos _ (0 + k) _ (by rfl) HO.out ⟨b, off + (k + 1), none⟩ (hs.length - (k + 1)) (cap - (k + 1)) (((hs.drop (k + 1)).take (hs.length - (k + 1))).map (Value.int .i64)) (by rfl) SL2.out (NW.out _ K3.out (k + 1) (hs.length - (k + 1)) l4) (O1.out _) m3 m4 (Nat.le_trans S1.out SZ.out) ?_); intro a2 cp2 w3 ho2 hg2; have HO2 := Lib.hid ho2; have F1 := grown_cell hg2 E1 (own_ne HO.out z1); have F0 := grown_cell hg2 E0 (own_ne HO.out z1); have B7 := Lib.hid (B6.out.grown hg2 (own_ne HO.out z2)); have K4 := Lib.hid (kpt_grown K3.out hg2 (fun q hq => Nat.le_trans z3 (own_ge HO.out q hq))); clear ho2 hg2; have d1 : w3.cell? ⟨w1.heap.size, 1, none⟩ = _ := B7.out.cell 1; have f1 := B7.out.frozen 1))
  have q0 := set_far (p := ⟨w1.heap.size, 1, none⟩) (v := .slice a2 (k + (hs.length - (k + 1))) cp2) z4 F0
  have q1 := set_far (p := ⟨w1.heap.size, 1, none⟩) (v := .slice a2 (k + (hs.length - (k + 1))) cp2) z4 F1
  have r0 : (w3.setCell ⟨w1.heap.size, 1, none⟩ (.slice a2 (k + (hs.length - (k + 1))) cp2)).cell? ⟨w1.heap.size, 0, none⟩ = some (.int .i64 W) := (World.cell?_setCell_other w3 ⟨w1.heap.size, 1, none⟩ ⟨w1.heap.size, 0, none⟩ _ (by simp)).trans (B7.out.cell 0)
  have r1 : (w3.setCell ⟨w1.heap.size, 1, none⟩ (.slice a2 (k + (hs.length - (k + 1))) cp2)).cell? ⟨w1.heap.size, 1, none⟩ = some (.slice a2 (k + (hs.length - (k + 1))) cp2) := set_at d1
  have O3 := own_away HO2.out (p := ⟨w1.heap.size, 1, none⟩) z2 (.slice a2 (k + (hs.length - (k + 1))) cp2)
  rw [show 0 + k + (hs.length - (k + 1)) = k + (hs.length - (k + 1)) by omega] at O3
  have RL := Lib.hid (own_reads O3 (less_row hs k) (by have := LN.out; omega))
  have KW : Hid (Kpt w (w3.setCell ⟨w1.heap.size, 1, none⟩ (.slice a2 (k + (hs.length - (k + 1))) cp2))) := Below.setCell K4.out (Nat.le_of_lt z0) _
  clear O3 d1 f1 E0 E1 F0 F1 B7 B6 HO2 HO EB K2 B5 D0 D1 SL SL2 Q1 O1 S1 SZ K3 K4 NW HC HH b1 b2 b3 b4 b5 b6 b7 b8 m1 m2 m3 m4 cd
  generalize w3.setCell ⟨w1.heap.size, 1, none⟩ (.slice a2 (k + (hs.length - (k + 1))) cp2) = w4 at *
  obtain ⟨F1, F2, F3, F4, F5, F6, F7, F8, F9, F10⟩ := HF.out
  clear HF
  have R4 := Lib.hid (RD.out.kpt KW.out)
  have CL1 : Hid (∀ w', Kpt w4 w' → Calls Tryd.prog 5 #[calV W (.slice a2 (k + (hs.length - (k + 1))) cp2), .int .i64 day] w' fun e w'' => e = .returned (.tuple #[.bool (isR W (lessOf hs k) day), .int .i64 0]) ∧ Kpt w' w'') := fun w' g => by
    have h := is_any W day _ (lessOf hs k) w' (RL.out.kpt g) LF.out
    rw [F1] at h; exact h
  have CC1 : Hid (∀ w', Kpt w4 w' → Calls Tryd.prog 5 #[calV W (.slice (some ⟨b, off, none⟩) hs.length cap), .int .i64 day] w' fun e w'' => e = .returned (.tuple #[.bool false, .int .i64 0]) ∧ Kpt w' w'') := fun w' g => by
    have h := is_any W day _ hs w' (R4.out.kpt g) FH.out
    rw [F2, F3] at h; exact h
  have CL2 : Hid (∀ w', Kpt w4 w' → Calls Tryd.prog 5 #[calV W (.slice a2 (k + (hs.length - (k + 1))) cp2), .int .i64 n] w' fun e w'' => e = .returned (.tuple #[.bool (isR W (lessOf hs k) n), .int .i64 (daysE W hs [n])]) ∧ Kpt w' w'') := fun w' g => by
    have h := is_any W n _ (lessOf hs k) w' (RL.out.kpt g) LF.out
    rw [F4] at h; exact h
  have CC2 : Hid (∀ w', Kpt w4 w' → Calls Tryd.prog 5 #[calV W (.slice (some ⟨b, off, none⟩) hs.length cap), .int .i64 n] w' fun e w'' => e = .returned (.tuple #[.bool (isR W hs n), .int .i64 (daysE W hs [n])]) ∧ Kpt w' w'') := fun w' g => is_any W n _ hs w' (R4.out.kpt g) FH.out
  have CL3 : Hid (∀ w', Kpt w4 w' → Calls Tryd.prog 8 #[calV W (.slice a2 (k + (hs.length - (k + 1))) cp2), .int .i64 f, .int .i64 t] w' fun e w'' => e = .returned (.tuple #[.int .i64 (couR W (lessOf hs k) f t), .int .i64 (couE W hs f t)]) ∧ Kpt w' w'') := fun w' g => by
    have h := count_any W f t _ (lessOf hs k) w' (RL.out.kpt g) LF.out
    rw [F6] at h; exact h
  have CC3 : Hid (∀ w', Kpt w4 w' → Calls Tryd.prog 8 #[calV W (.slice (some ⟨b, off, none⟩) hs.length cap), .int .i64 f, .int .i64 t] w' fun e w'' => e = .returned (.tuple #[.int .i64 (couR W hs f t), .int .i64 (couE W hs f t)]) ∧ Kpt w' w'') := fun w' g => count_any W f t _ hs w' (R4.out.kpt g) FH.out
  have G4 : Hid (Kpt w4 w4) := Kpt.refl _
  clear F1 F2 F3 F4 F6 LF RD FH LN R4 RL c0 c1 G CK B
  generalize isR W (lessOf hs k) day = was at *
  generalize isR W (lessOf hs k) n = A at *
  generalize isR W hs n = C at *
  generalize couR W (lessOf hs k) f t = X at *
  generalize couR W hs f t = Y at *
  generalize couE W hs f t = E at *
  generalize daysE W hs [n] = D at *
  have hA : ((n != day) = false ∧ True) ∨ ((n != day) = true ∧ A = C) := by
    by_cases hn : n = day
    · exact .inl ⟨by simp [hn], trivial⟩
    · exact .inr ⟨by simp [hn], F5 hn⟩
  clear F5
  have hP : ((E != 0) = true) ∨ (E = 0 ∧ ((was = false ∧ X = Y) ∨ (was = true ∧ ((¬ f < day ∧ X = Y) ∨ (f < day ∧ ((¬ day ≤ t ∧ X = Y) ∨ (day ≤ t ∧ X = Y + 1))))))) := by
    by_cases h0 : E = 0
    · have := F10 h0
      refine .inr ⟨h0, ?_⟩
      cases was with
      | false => exact .inl ⟨rfl, by simpa using this⟩
      | true =>
        refine .inr ⟨rfl, ?_⟩
        by_cases h1 : f < day
        · refine .inr ⟨h1, ?_⟩
          by_cases h2 : day ≤ t
          · exact .inr ⟨h2, by simpa [h1, h2] using this⟩
          · exact .inl ⟨h2, by simpa [h1, h2] using this⟩
        · exact .inl ⟨h1, by simpa [h1] using this⟩
    · exact .inl (bne_iff_ne.2 h0)
  clear F10
  rcases hA with ⟨hA, -⟩ | ⟨hA, rfl⟩ <;> rcases hP with hq | ⟨rfl, ⟨rfl, rfl⟩ | ⟨rfl, ⟨h1, rfl⟩ | ⟨h1, ⟨h2, rfl⟩ | ⟨h2, rfl⟩⟩⟩⟩
  all_goals
    go_wp2_with (first
    | (go_at_call 5; (with_reducible refine (CL1.out _ G4.out).mono ?_); rintro e w5 ⟨rfl, g5⟩; have q0 := g5.cell q0; have q1 := g5.cell q1; have r0 := g5.cell r0; have r1 := g5.cell r1; have G4 := Lib.hid (ktr G4.out g5); clear g5)
    | (go_at_call 5; (with_reducible refine (CC1.out _ G4.out).mono ?_); rintro e w5 ⟨rfl, g5⟩; have q0 := g5.cell q0; have q1 := g5.cell q1; have r0 := g5.cell r0; have r1 := g5.cell r1; have G4 := Lib.hid (ktr G4.out g5); clear g5)
    | (go_at_call 5; (with_reducible refine (CL2.out _ G4.out).mono ?_); rintro e w5 ⟨rfl, g5⟩; have q0 := g5.cell q0; have q1 := g5.cell q1; have r0 := g5.cell r0; have r1 := g5.cell r1; have G4 := Lib.hid (ktr G4.out g5); clear g5)
    | (go_at_call 5; (with_reducible refine (CC2.out _ G4.out).mono ?_); rintro e w5 ⟨rfl, g5⟩; have q0 := g5.cell q0; have q1 := g5.cell q1; have r0 := g5.cell r0; have r1 := g5.cell r1; have G4 := Lib.hid (ktr G4.out g5); clear g5)
    | (go_at_call 8; (with_reducible refine (CL3.out _ G4.out).mono ?_); rintro e w5 ⟨rfl, g5⟩; have q0 := g5.cell q0; have q1 := g5.cell q1; have r0 := g5.cell r0; have r1 := g5.cell r1; have G4 := Lib.hid (ktr G4.out g5); clear g5)
    | (go_at_call 8; (with_reducible refine (CC3.out _ G4.out).mono ?_); rintro e w5 ⟨rfl, g5⟩; have q0 := g5.cell q0; have q1 := g5.cell q1; have r0 := g5.cell r0; have r1 := g5.cell r1; have G4 := Lib.hid (ktr G4.out g5); clear g5))
    all_goals
      go_ret
      exact ⟨rfl, ktr KW.out G4.out⟩


set_option maxRecDepth 100000 in
set_option maxHeartbeats 4000000 in
theorem calHoliday_end (W : Int) (k : Nat) (f t n : Int) (b off : Nat) (hs : List Int) (w : World) (ht : Tab w) (hr : Reads w (.slice (some ⟨b, off, none⟩) hs.length (k + 1)) hs) (hf : Fits hs) (hE : calE W hs = 0) (hk : k < hs.length) (hend : hs.length = k + 1) (hc : ∀ j, j < hs.length → w.cell? ⟨b, off + j, none⟩ = some (.int .i64 (hs.getD j 0))) :
    Calls Tryd.prog 4 #[calV W (.slice (some ⟨b, off, none⟩) hs.length (k + 1)), .int .i64 (k : Int), .int .i64 f, .int .i64 t, .int .i64 n] w fun r w' => r = .returned (.bool true) ∧ Kpt w w' := by
  have hm := hr.len
  unfold maxLen at hm
  have HEND := Lib.hid hend
  clear hend
  obtain ⟨-, -, h60, -⟩ := cal_right hE
  have k0 : Kpt w (w.alloc (.cells #[.int .i64 W, .slice (some ⟨b, off, none⟩) hs.length (k + 1)] 24)) := (Kpt.refl _).alloc _
  have G := Lib.hid k0
  have c0 : (w.alloc (.cells #[.int .i64 W, .slice (some ⟨b, off, none⟩) hs.length (k + 1)] 24)).cell? ⟨w.heap.size, 0, none⟩ = some (.int .i64 W) := by simp [go_sem]
  have c1 : (w.alloc (.cells #[.int .i64 W, .slice (some ⟨b, off, none⟩) hs.length (k + 1)] 24)).cell? ⟨w.heap.size, 1, none⟩ = some (.slice (some ⟨b, off, none⟩) hs.length (k + 1)) := by simp [go_sem]
  have B := Lib.hid (fun w' (g : Kpt w w') => calBegun w' (ht.kpt g))
  have CK : Hid (∀ w', Kpt w w' → Calls Tryd.prog 16 #[calV W (.slice (some ⟨b, off, none⟩) hs.length (k + 1))] w' fun e w'' => e = .returned (.int .i64 0) ∧ Kpt w' w'') := fun w' g => by
    have := calCheck_any W _ hs w' (hr.kpt g) hf
    rw [hE] at this
    exact this.mono fun e w'' h => ⟨h.1, h.2.kpt⟩
  have i0 : (0 : Int) ≤ (k : Int) := by omega
  have i1 : (k : Int) < (hs.length : Int) := by omega
  have HC := Lib.hid hc
  have HH := Lib.hid (fun w' (g : Kpt w w') => g.cell (hc k hk))
  have HF := Lib.hid (hol_facts hE hk f t n)
  have LF := Lib.hid (less_fits (k := k) (cal_strict hE).2)
  have RD := Lib.hid hr
  have FH := Lib.hid hf
  have LN := Lib.hid (less_len hk)
  generalize hs.getD k 0 = day at HH HF
  clear hr hf hE ht hc k0
  go_enter Tryd.func4, Tryd.ntmps4
  go_wp2_with (first
    | (go_at_call 15; (with_reducible refine (B.out _ G.out).mono ?_); rintro e w1 ⟨rfl, g1⟩; have c0 := g1.cell c0; have c1 := g1.cell c1; have G := Lib.hid (ktr G.out g1); clear g1)
    | (go_at_call 16; (with_reducible refine (CK.out _ G.out).mono ?_); rintro e w1 ⟨rfl, g1⟩; have c0 := g1.cell c0; have c1 := g1.cell c1; have G := Lib.hid (ktr G.out g1); have cd := HH.out _ G.out; clear g1))
  obtain ⟨i0', hi0, hz0, hz1, hz2⟩ := info_parts Tryd.infoInt
  have NW := Lib.hid (fun w' (g : Kpt w w') (lo m : Nat) (h : lo + m ≤ hs.length) j u (hu : (((hs.drop lo).take m).map (Value.int .i64))[j]? = some u) => (by
    have hj : j < m := by
      have := (List.getElem?_eq_some_iff.1 hu).1
      simp at this; omega
    have hlj : lo + j < hs.length := by omega
    rw [List.getElem?_map, List.getElem?_take_of_lt hj, List.getElem?_drop, List.getElem?_eq_getElem hlj] at hu
    have hadd : (⟨b, off + lo, none⟩ : Addr).add j = ⟨b, off + (lo + j), none⟩ := by simp [Addr.add, Nat.add_assoc]
    rw [hadd]
    have := g.cell (HC.out (lo + j) hlj)
    rw [this, ← Option.some.inj hu, List.getD_eq_getElem?_getD, List.getElem?_eq_getElem hlj]; rfl : w'.cell? ((⟨b, off + lo, none⟩ : Addr).add j) = some u))
  have sz := G.out.size
  have GS : Hid (Kpt w ((w1.alloc (.cells #[.int .i64 W, .slice (some ⟨b, off, none⟩) hs.length (k + 1)] 24)).drew)) := Below.drew (G.out.alloc _)
  have b1 : (0 : Int) ≤ (k : Int) := by omega
  have b2 : (k : Int) ≤ (k : Int) + 1 := by omega
  have b3 : (0 : Int) ≤ (k : Int) + 1 := by omega
  have b4 : (k : Int) + 1 ≤ (hs.length : Int) := by omega
  have b5 : IntKind.i64.wrap ((k : Int) + 1) = (k : Int) + 1 := IntWalk.i64_in _ (by omega)
  have b6 : ((k : Int) + 1).toNat = k + 1 := by omega
  have b7 : (0 : Int) ≤ (k : Int) + 1 := by omega
  have b8 : k ≤ k + 1 := by omega
  have NE := Lib.hid (end_none hs k HEND.out)
  clear GS
  have EB : Hid (World.ownsRow (((w1.alloc (.cells #[.int .i64 W, .slice (some ⟨b, off, none⟩) hs.length (k + 1)] 24)).alloc (.cells #[] 3)).drew) (w1.heap.size + 1) 3 1 (.slice (some ⟨w1.heap.size + 1, 0, none⟩) 0 0) 0 []) := owns_empty w1 _
  have K2 : Hid (Kpt w (((w1.alloc (.cells #[.int .i64 W, .slice (some ⟨b, off, none⟩) hs.length (k + 1)] 24)).alloc (.cells #[] 3)).drew)) := Below.drew ((G.out.alloc _).alloc _)
  have B5 : Hid (Blk (((w1.alloc (.cells #[.int .i64 W, .slice (some ⟨b, off, none⟩) hs.length (k + 1)] 24)).alloc (.cells #[] 3)).drew) w1.heap.size #[.int .i64 W, .slice (some ⟨b, off, none⟩) hs.length (k + 1)] 24) := ((Blk.made w1 _ _).alloc _).drew
  have D0 := Lib.hid (cell_two c0 (.cells #[.int .i64 W, .slice (some ⟨b, off, none⟩) hs.length (k + 1)] 24) (.cells #[] 3))
  have D1 := Lib.hid (cell_two c1 (.cells #[.int .i64 W, .slice (some ⟨b, off, none⟩) hs.length (k + 1)] 24) (.cells #[] 3))
  have SL : Hid ((((hs.drop 0).take k).map (Value.int .i64)).length = k * 1) := (by simp; omega : (((hs.drop 0).take k).map (Value.int .i64)).length = k * 1)
  have SL2 : Hid ((((hs.drop (k + 1)).take (hs.length - (k + 1))).map (Value.int .i64)).length = (hs.length - (k + 1)) * 1) := (by simp : (((hs.drop (k + 1)).take (hs.length - (k + 1))).map (Value.int .i64)).length = (hs.length - (k + 1)) * 1)
  have z0 : w.heap.size < w1.heap.size := cell_in c0
  have Q1 := Lib.hid (NW.out _ K2.out 0 k (by omega))
  have one : ∀ (l : List Int), ∀ u ∈ l.map (Value.int .i64), u.oneCell' = true := fun l u hu => by
    obtain ⟨x, _, rfl⟩ := List.mem_map.1 hu
    rfl
  have O1 := Lib.hid one
  clear one
  have m1 : 0 + k ≤ maxLen := by unfold maxLen; omega
  have m2 : (0 + k) * 8 ≤ 140737488355328 := by omega
  have m3 : 0 + k + (hs.length - (k + 1)) ≤ maxLen := by unfold maxLen; omega
  have m4 : (0 + k + (hs.length - (k + 1))) * 8 ≤ 140737488355328 := by omega
  have z1 : w.heap.size < w1.heap.size + 1 := by omega
  have z2 : w1.heap.size < w1.heap.size + 1 := by omega
  have z3 : w.heap.size ≤ w1.heap.size + 1 := by omega
  have S1 : Hid (w1.heap.size + 1 ≤ (((w1.alloc (.cells #[.int .i64 W, .slice (some ⟨b, off, none⟩) hs.length (k + 1)] 24)).alloc (.cells #[] 3)).drew).heap.size) := (by simp : w1.heap.size + 1 ≤ (((w1.alloc (.cells #[.int .i64 W, .slice (some ⟨b, off, none⟩) hs.length (k + 1)] 24)).alloc (.cells #[] 3)).drew).heap.size)
  have z4 : w1.heap.size ≠ w.heap.size := by omega
  have l4 : k + 1 + (hs.length - (k + 1)) ≤ hs.length := by omega
  go_region_held3 (fun w' => w'.cell? ⟨w.heap.size, 1, none⟩ = some (.slice (some ⟨b, off, none⟩) hs.length (k + 1)))
    ((first | exact D1.out | assumption | exact set_far (p := ⟨w1.heap.size, 1, none⟩) z4 F1 | go_keep))
    (first
      | ((refine step_append_mine (by rfl) _ _ _ (by rfl) (w1.heap.size + 1) 3 i0' _ 1 8 Tryd.underlying22 hi0 hz0 hz1 hz2 rfl Nat.one_pos _ 0 [] (by rfl) EB.out ⟨b, off + 0, none⟩ k (k + 1) (((hs.drop 0).take k).map (Value.int .i64)) (by rfl) SL.out Q1.out (O1.out _) m1 m2 S1.out ?_); intro a1 cp1 w2 ho hg; have HO := Lib.hid ho; have E1 := grown_cell hg D1.out (own_ne EB.out z1); have E0 := grown_cell hg D0.out (own_ne EB.out z1); have B6 := Lib.hid (B5.out.grown hg (own_ne EB.out z2)); have K3 := Lib.hid (kpt_grown K2.out hg (fun q hq => Nat.le_trans z3 (own_ge EB.out q hq))); have SZ := Lib.hid hg.size; clear ho hg)
      | ((refine step_append_mine (by rfl) _ _ _ (by rfl) (w1.heap.size + 1) 3 i0' _ 1 8 Tryd.underlying22 hi0 hz0 hz1 hz2 rfl Nat.one_pos _ (0 + k) _ (by rfl) HO.out ⟨b, off, none⟩ (hs.length - (k + 1)) 0 (((hs.drop (k + 1)).take (hs.length - (k + 1))).map (Value.int .i64)) (by rfl) SL2.out (NE.out _ _) (O1.out _) m3 m4 (Nat.le_trans S1.out SZ.out) ?_); intro a2 cp2 w3 ho2 hg2; have HO2 := Lib.hid ho2; have F1 := grown_cell hg2 E1 (own_ne HO.out z1); have F0 := grown_cell hg2 E0 (own_ne HO.out z1); have B7 := Lib.hid (B6.out.grown hg2 (own_ne HO.out z2)); have K4 := Lib.hid (kpt_grown K3.out hg2 (fun q hq => Nat.le_trans z3 (own_ge HO.out q hq))); clear ho2 hg2; have d1 : w3.cell? ⟨w1.heap.size, 1, none⟩ = _ := B7.out.cell 1; have f1 := B7.out.frozen 1))
  have q0 := set_far (p := ⟨w1.heap.size, 1, none⟩) (v := .slice a2 (k + (hs.length - (k + 1))) cp2) z4 F0
  have q1 := set_far (p := ⟨w1.heap.size, 1, none⟩) (v := .slice a2 (k + (hs.length - (k + 1))) cp2) z4 F1
  have r0 : (w3.setCell ⟨w1.heap.size, 1, none⟩ (.slice a2 (k + (hs.length - (k + 1))) cp2)).cell? ⟨w1.heap.size, 0, none⟩ = some (.int .i64 W) := (World.cell?_setCell_other w3 ⟨w1.heap.size, 1, none⟩ ⟨w1.heap.size, 0, none⟩ _ (by simp)).trans (B7.out.cell 0)
  have r1 : (w3.setCell ⟨w1.heap.size, 1, none⟩ (.slice a2 (k + (hs.length - (k + 1))) cp2)).cell? ⟨w1.heap.size, 1, none⟩ = some (.slice a2 (k + (hs.length - (k + 1))) cp2) := set_at d1
  have O3 := own_away HO2.out (p := ⟨w1.heap.size, 1, none⟩) z2 (.slice a2 (k + (hs.length - (k + 1))) cp2)
  rw [show 0 + k + (hs.length - (k + 1)) = k + (hs.length - (k + 1)) by omega] at O3
  have RL := Lib.hid (own_reads O3 (less_row hs k) (by have := LN.out; omega))
  have KW : Hid (Kpt w (w3.setCell ⟨w1.heap.size, 1, none⟩ (.slice a2 (k + (hs.length - (k + 1))) cp2))) := Below.setCell K4.out (Nat.le_of_lt z0) _
  clear O3 d1 f1 E0 E1 F0 F1 B7 B6 HO2 HO EB K2 B5 D0 D1 SL SL2 Q1 O1 S1 SZ K3 K4 NW HC HH b1 b2 b3 b4 b5 b6 b7 b8 m1 m2 m3 m4 cd
  generalize w3.setCell ⟨w1.heap.size, 1, none⟩ (.slice a2 (k + (hs.length - (k + 1))) cp2) = w4 at *
  obtain ⟨F1, F2, F3, F4, F5, F6, F7, F8, F9, F10⟩ := HF.out
  clear HF
  have R4 := Lib.hid (RD.out.kpt KW.out)
  have CL1 : Hid (∀ w', Kpt w4 w' → Calls Tryd.prog 5 #[calV W (.slice a2 (k + (hs.length - (k + 1))) cp2), .int .i64 day] w' fun e w'' => e = .returned (.tuple #[.bool (isR W (lessOf hs k) day), .int .i64 0]) ∧ Kpt w' w'') := fun w' g => by
    have h := is_any W day _ (lessOf hs k) w' (RL.out.kpt g) LF.out
    rw [F1] at h; exact h
  have CC1 : Hid (∀ w', Kpt w4 w' → Calls Tryd.prog 5 #[calV W (.slice (some ⟨b, off, none⟩) hs.length (k + 1)), .int .i64 day] w' fun e w'' => e = .returned (.tuple #[.bool false, .int .i64 0]) ∧ Kpt w' w'') := fun w' g => by
    have h := is_any W day _ hs w' (R4.out.kpt g) FH.out
    rw [F2, F3] at h; exact h
  have CL2 : Hid (∀ w', Kpt w4 w' → Calls Tryd.prog 5 #[calV W (.slice a2 (k + (hs.length - (k + 1))) cp2), .int .i64 n] w' fun e w'' => e = .returned (.tuple #[.bool (isR W (lessOf hs k) n), .int .i64 (daysE W hs [n])]) ∧ Kpt w' w'') := fun w' g => by
    have h := is_any W n _ (lessOf hs k) w' (RL.out.kpt g) LF.out
    rw [F4] at h; exact h
  have CC2 : Hid (∀ w', Kpt w4 w' → Calls Tryd.prog 5 #[calV W (.slice (some ⟨b, off, none⟩) hs.length (k + 1)), .int .i64 n] w' fun e w'' => e = .returned (.tuple #[.bool (isR W hs n), .int .i64 (daysE W hs [n])]) ∧ Kpt w' w'') := fun w' g => is_any W n _ hs w' (R4.out.kpt g) FH.out
  have CL3 : Hid (∀ w', Kpt w4 w' → Calls Tryd.prog 8 #[calV W (.slice a2 (k + (hs.length - (k + 1))) cp2), .int .i64 f, .int .i64 t] w' fun e w'' => e = .returned (.tuple #[.int .i64 (couR W (lessOf hs k) f t), .int .i64 (couE W hs f t)]) ∧ Kpt w' w'') := fun w' g => by
    have h := count_any W f t _ (lessOf hs k) w' (RL.out.kpt g) LF.out
    rw [F6] at h; exact h
  have CC3 : Hid (∀ w', Kpt w4 w' → Calls Tryd.prog 8 #[calV W (.slice (some ⟨b, off, none⟩) hs.length (k + 1)), .int .i64 f, .int .i64 t] w' fun e w'' => e = .returned (.tuple #[.int .i64 (couR W hs f t), .int .i64 (couE W hs f t)]) ∧ Kpt w' w'') := fun w' g => count_any W f t _ hs w' (R4.out.kpt g) FH.out
  have G4 : Hid (Kpt w4 w4) := Kpt.refl _
  clear F1 F2 F3 F4 F6 LF RD FH LN R4 RL c0 c1 G CK B
  generalize isR W (lessOf hs k) day = was at *
  generalize isR W (lessOf hs k) n = A at *
  generalize isR W hs n = C at *
  generalize couR W (lessOf hs k) f t = X at *
  generalize couR W hs f t = Y at *
  generalize couE W hs f t = E at *
  generalize daysE W hs [n] = D at *
  have hA : ((n != day) = false ∧ True) ∨ ((n != day) = true ∧ A = C) := by
    by_cases hn : n = day
    · exact .inl ⟨by simp [hn], trivial⟩
    · exact .inr ⟨by simp [hn], F5 hn⟩
  clear F5
  have hP : ((E != 0) = true) ∨ (E = 0 ∧ ((was = false ∧ X = Y) ∨ (was = true ∧ ((¬ f < day ∧ X = Y) ∨ (f < day ∧ ((¬ day ≤ t ∧ X = Y) ∨ (day ≤ t ∧ X = Y + 1))))))) := by
    by_cases h0 : E = 0
    · have := F10 h0
      refine .inr ⟨h0, ?_⟩
      cases was with
      | false => exact .inl ⟨rfl, by simpa using this⟩
      | true =>
        refine .inr ⟨rfl, ?_⟩
        by_cases h1 : f < day
        · refine .inr ⟨h1, ?_⟩
          by_cases h2 : day ≤ t
          · exact .inr ⟨h2, by simpa [h1, h2] using this⟩
          · exact .inl ⟨h2, by simpa [h1, h2] using this⟩
        · exact .inl ⟨h1, by simpa [h1] using this⟩
    · exact .inl (bne_iff_ne.2 h0)
  clear F10
  rcases hA with ⟨hA, -⟩ | ⟨hA, rfl⟩ <;> rcases hP with hq | ⟨rfl, ⟨rfl, rfl⟩ | ⟨rfl, ⟨h1, rfl⟩ | ⟨h1, ⟨h2, rfl⟩ | ⟨h2, rfl⟩⟩⟩⟩
  all_goals
    go_wp2_with (first
    | (go_at_call 5; (with_reducible refine (CL1.out _ G4.out).mono ?_); rintro e w5 ⟨rfl, g5⟩; have q0 := g5.cell q0; have q1 := g5.cell q1; have r0 := g5.cell r0; have r1 := g5.cell r1; have G4 := Lib.hid (ktr G4.out g5); clear g5)
    | (go_at_call 5; (with_reducible refine (CC1.out _ G4.out).mono ?_); rintro e w5 ⟨rfl, g5⟩; have q0 := g5.cell q0; have q1 := g5.cell q1; have r0 := g5.cell r0; have r1 := g5.cell r1; have G4 := Lib.hid (ktr G4.out g5); clear g5)
    | (go_at_call 5; (with_reducible refine (CL2.out _ G4.out).mono ?_); rintro e w5 ⟨rfl, g5⟩; have q0 := g5.cell q0; have q1 := g5.cell q1; have r0 := g5.cell r0; have r1 := g5.cell r1; have G4 := Lib.hid (ktr G4.out g5); clear g5)
    | (go_at_call 5; (with_reducible refine (CC2.out _ G4.out).mono ?_); rintro e w5 ⟨rfl, g5⟩; have q0 := g5.cell q0; have q1 := g5.cell q1; have r0 := g5.cell r0; have r1 := g5.cell r1; have G4 := Lib.hid (ktr G4.out g5); clear g5)
    | (go_at_call 8; (with_reducible refine (CL3.out _ G4.out).mono ?_); rintro e w5 ⟨rfl, g5⟩; have q0 := g5.cell q0; have q1 := g5.cell q1; have r0 := g5.cell r0; have r1 := g5.cell r1; have G4 := Lib.hid (ktr G4.out g5); clear g5)
    | (go_at_call 8; (with_reducible refine (CC3.out _ G4.out).mono ?_); rintro e w5 ⟨rfl, g5⟩; have q0 := g5.cell q0; have q1 := g5.cell q1; have r0 := g5.cell r0; have r1 := g5.cell r1; have G4 := Lib.hid (ktr G4.out g5); clear g5))
    all_goals
      go_ret
      exact ⟨rfl, ktr KW.out G4.out⟩


end Go.Proofs.YtgkhcjnehmfgiaaDoor
