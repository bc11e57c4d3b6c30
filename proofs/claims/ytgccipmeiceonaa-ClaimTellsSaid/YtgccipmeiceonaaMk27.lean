/-
  Merged: RefClm3.
-/
import Derived.Test.YtgccipmeiceonaaMk21
import Derived.Test.YtgccipmeiceonaaMk26
import Derived.Test.YtgccipmeiceonaaMk25
import Derived.Laws.AppendOwnNone
-- RefClm3
namespace Go.Proofs.Ytgccipmeiceonaa
open Go.RowKit
set_option linter.unusedVariables false

/-- what is there of a fail behind an event -/
def grL (P G O : Int) (l : List Int) : List Int := if l.getD 4 0 = P then upd l (l.getD 6 0 + hoN G O (openL l)) else l
def gkF (P G O : Int) (fs : List (List Int)) : Nat → List (List Int)
  | 0 => fs
  | k + 1 => (gkF P G O fs k).set k (grL P G O (fs.getD k []))
theorem gkF_len (P G O : Int) (fs : List (List Int)) : ∀ k, (gkF P G O fs k).length = fs.length
  | 0 => rfl
  | k + 1 => by rw [gkF, List.length_set]; exact gkF_len P G O fs k
theorem gkF_at (P G O : Int) (fs : List (List Int)) (j : Nat) (hj : j < fs.length) : ∀ m, m ≤ fs.length → (gkF P G O fs m).getD j [] = if j < m then grL P G O (fs.getD j []) else fs.getD j []
  | 0, _ => by rw [if_neg (by omega)]; rfl
  | m + 1, hm => by
    rw [gkF, set_getF _ _ _ (by rw [gkF_len]; omega), gkF_at P G O fs j hj m (by omega)]
    by_cases h : j = m
    · rw [if_pos h, if_pos (by omega), h]
    · rw [if_neg h]
      by_cases h2 : j < m
      · rw [if_pos h2, if_pos (by omega)]
      · rw [if_neg h2, if_neg (by omega)]
def grA (P G O : Int) (fs : List (List Int)) : List (List Int) := fs.map (grL P G O)
theorem grA_at (P G O : Int) (fs : List (List Int)) (j : Nat) (hj : j < fs.length) : (grA P G O fs).getD j [] = grL P G O (fs.getD j []) := by
  unfold grA
  rw [List.getD_eq_getElem?_getD, List.getElem?_map, List.getD_eq_getElem?_getD, List.getElem?_eq_getElem hj]; rfl
/-- has a fail grown too large? -/
def bigB (P G O : Int) (fs : List (List Int)) : Bool := fs.any fun l => decide (1073741824 < (grL P G O l).getD 6 0)
theorem big_f {P G O : Int} {fs : List (List Int)} : bigB P G O fs = false ↔ ∀ j, j < fs.length → (grL P G O (fs.getD j [])).getD 6 0 ≤ 1073741824 := by
  unfold bigB
  rw [List.any_eq_false]
  constructor
  · intro h j hj
    exact Int.not_lt.1 fun q => h _ (getF_mem hj) (decide_eq_true q)
  · intro h l hl
    obtain ⟨j, hj, rfl⟩ := List.getElem_of_mem hl
    have h2 := h j hj
    have e : fs.getD j [] = fs[j] := by rw [List.getD_eq_getElem?_getD, List.getElem?_eq_getElem hj]; rfl
    rw [e] at h2
    exact fun q => Int.not_lt.2 h2 (of_decide_eq_true q)
theorem big_t {P G O : Int} {fs : List (List Int)} {j : Nat} (hj : j < fs.length) (h : 1073741824 < (grL P G O (fs.getD j [])).getD 6 0) : bigB P G O fs = true := by
  cases hb : bigB P G O fs with
  | true => rfl
  | false => have := big_f.1 hb j hj; omega
theorem grL_6 {P C G O : Int} {fs : List (List Int)} (h : cwE P C G O fs = 0) {l : List Int} (hl : l ∈ fs) : (grL P G O l).getD 6 0 = l.getD 6 0 + (if hitB P l = true then hoN G O (openL l) else 0) ∧ 0 ≤ hoN G O (openL l) ∧ hoN G O (openL l) ≤ 1073741824000 := by
  obtain ⟨h1, h2⟩ := cwE_0 h
  obtain ⟨-, -, hG, hO, -⟩ := evE_0 h1
  have hn := hoN_bd (openL_bd l) hG hO.1
  refine ⟨?_, hn⟩
  unfold grL
  by_cases h4 : l.getD 4 0 = P
  · rw [if_pos h4, upd_at _ _ (by decide), if_pos rfl]
    by_cases ho : 0 < openL l
    · rw [if_pos (by unfold hitB; rw [decide_eq_true h4, decide_eq_true ho]; rfl)]
    · have h0 : openL l = 0 := by have := openL_bd l; omega
      rw [if_neg (by unfold hitB; rw [decide_eq_false ho]; simp), h0]
      unfold hoN
      split
      · rfl
      · simp
  · rw [if_neg h4, if_neg (by unfold hitB; rw [decide_eq_false h4]; simp), Int.add_zero]
theorem grL_r {P G O : Int} {l : List Int} {j : Nat} (hj : j < 10) (h6 : j ≠ 6) : (grL P G O l).getD j 0 = l.getD j 0 := by
  unfold grL
  split
  · rw [upd_at _ _ hj, if_neg h6]
  · rfl
theorem big_ok {P C G O : Int} {fs : List (List Int)} (h : cwE P C G O fs = 0) (hg : GOk G O fs (hit P fs fs.length)) : bigB P G O fs = false := big_f.2 fun j hj => by
  rw [(grL_6 h (getF_mem hj)).1]
  obtain ⟨e, b⟩ := gro_u h hg j hj
  rw [e] at b
  exact b
theorem big_no {P C G O : Int} {fs : List (List Int)} (h : cwE P C G O fs = 0) (hx : ∃ pre x, pre ++ [x] <+: hit P fs fs.length ∧ 1073741824 < unL (gro G O fs (pre ++ [x])) x.1) : bigB P G O fs = true := by
  obtain ⟨pre, x, hp, hu⟩ := hx
  have hm : x ∈ hit P fs fs.length := hp.subset (by simp)
  have hh := hit_mem.1 hm
  have hd : (pre ++ [x]).Nodup := List.Nodup.sublist hp.sublist (hit_nodup P fs fs.length)
  obtain ⟨e6, n0, n1⟩ := grL_6 h (getF_mem x.2)
  have ub := unit_bd ((checks_all (cwE_0 h).2).2 _ (getF_mem x.2))
  rw [gro_unit G O fs _ hd x, if_pos (by simp), show IntKind.i64.wrap (unL fs x.1 + hoN G O (openL (fs.getD x.1 []))) = unL fs x.1 + hoN G O (openL (fs.getD x.1 [])) from IntWalk.i64_in _ (by unfold unL; omega)] at hu
  refine big_t x.2 ?_
  rw [e6, if_pos hh]
  exact hu
theorem grA_flb {P C G O : Int} {fs : List (List Int)} (h : cwE P C G O fs = 0) : ∀ l ∈ grA P G O fs, FlB l := by
  intro l hl
  obtain ⟨m, hm, rfl⟩ := List.mem_map.1 hl
  have fb := flB_of ((checks_all (cwE_0 h).2).2 _ hm)
  have ub := unit_bd ((checks_all (cwE_0 h).2).2 _ hm)
  obtain ⟨e6, n0, n1⟩ := grL_6 h hm
  intro j hj
  by_cases h6 : j = 6
  · subst h6
    rw [e6]
    split <;> omega
  · rw [grL_r hj h6]; exact fb j hj

def NilQ (v : Value) : Prop := ∀ n cap, v = .slice none n cap → cap = 0
/-- what a growth answers -/
def GrwRes (RL : List (List Int)) (E : Int) (w : World) (e : Ending) (w' : World) : Prop := ∃ a n c, e = .returned (.tuple #[.slice a n c, .int .i64 E]) ∧ ReadsF w' (.slice a n c) RL ∧ Kpt w w'
theorem grwRes_nil {E : Int} {w w' : World} (k : Kpt w w') : GrwRes [] E w (.returned (.tuple #[.slice none 0 0, .int .i64 E])) w' := ⟨_, _, _, rfl, readsF_nil _ _ _, k⟩
def grwE (P C G O : Int) (fs : List (List Int)) : Int := if cwE P C G O fs = 0 then (if bigB P G O fs = true then 8 else 0) else cwE P C G O fs
def grwL (P C G O : Int) (fs : List (List Int)) : List (List Int) := if grwE P C G O fs = 0 then grA P G O fs else []
theorem grow_res (P C G O : Int) (v : Value) (fs : List (List Int)) (w : World) (hr : ReadsF w v fs) (hn : NilQ v) :
    Calls Try.prog 38 #[.agg #[.int .i64 P, .int .i64 C, .int .i64 G, .int .i64 O], v] w (GrwRes (grwL P C G O fs) (grwE P C G O fs) w) := by
  by_cases h : cwE P C G O fs = 0
  · obtain ⟨a, cap, rfl, -⟩ := _root_.id hr
    refine (grow_ok P C G O a cap fs w hr (fun e => by subst e; exact hn _ _ rfl) h).mono ?_
    rintro e w' ⟨k, ⟨gv, rfl, ho, hg⟩ | ⟨rfl, hx⟩⟩
    · have eb := big_ok h hg
      have e1 : grwE P C G O fs = 0 := by unfold grwE; rw [if_pos h, eb]; rfl
      have e2 : grwL P C G O fs = grA P G O fs := if_pos e1
      rw [e1, e2]
      have rd : ReadsF w' gv (grA P G O fs) := OwnsN.readsG ho (by rw [gro_len]; unfold grA; rw [List.length_map]) (grA_flb h) (fun k j hk hj => by
        have hk : k < fs.length := by unfold grA at hk; rwa [List.length_map] at hk
        rw [grA_at P G O fs k hk]
        by_cases h6 : j = 6
        · subst h6
          rw [(grL_6 h (getF_mem hk)).1]
          exact (gro_u h hg k hk).1
        · rw [grL_r hj h6]; exact gro_rest G O fs _ k j hj h6)
      obtain ⟨a', c', rfl, -⟩ := _root_.id rd
      exact ⟨_, _, _, rfl, rd, k⟩
    · have eb := big_no h hx
      have e1 : grwE P C G O fs = 8 := by unfold grwE; rw [if_pos h, if_pos eb]
      have e2 : grwL P C G O fs = [] := if_neg (by rw [e1]; decide)
      rw [e1, e2]
      exact grwRes_nil k
  · have e1 : grwE P C G O fs = cwE P C G O fs := if_neg h
    have e2 : grwL P C G O fs = [] := if_neg (by rw [e1]; exact h)
    rw [e1, e2]
    refine (grow_bad P C G O v fs w hr h).mono ?_
    rintro e w' ⟨rfl, k⟩
    exact grwRes_nil k

set_option maxHeartbeats 4000000 in
theorem rgr_no (P C G O : Int) (v : Value) (fs : List (List Int)) (w : World) (hr : ReadsF w v fs) (h : cwE P C G O fs ≠ 0) :
    Calls Try.prog 43 #[.agg #[.int .i64 P, .int .i64 C, .int .i64 G, .int .i64 O], v] w (GrwRes [] (cwE P C G O fs) w) := by
  have CE := Lib.hid (fun w' => rev_run P C G O w')
  have FC := Lib.hid (fun w' (k : Kpt w w') => rfcs_run v fs w' (hr.kpt k))
  have KA : Hid (Kpt w (w.alloc (.cells #[.int .i64 P, .int .i64 C, .int .i64 G, .int .i64 O] 53))) := (Kpt.refl w).alloc _
  obtain ⟨a, n, c, rfl⟩ : ∃ a n c, v = .slice a n c := by obtain ⟨a, c, rfl, -⟩ := hr; exact ⟨_, _, _, rfl⟩
  clear hr
  by_cases h1 : evE P C G O = 0
  · have e : cwE P C G O fs = checksE fs := if_pos h1
    rw [e] at h ⊢
    rw [h1] at CE
    have q : (checksE fs != 0) = true := bne_iff_ne.2 h
    clear h h1 e
    generalize checksE fs = E at *
    go_enter Try.func43, Try.ntmps43
    go_wp2_with (first
      | (go_at_call 46; (with_reducible refine (CE.out _).mono ?_); rintro e w1 ⟨rfl, k1⟩; have K1 := Lib.hid (ktr KA.out k1); clear k1)
      | (go_at_call 86; (with_reducible refine (FC.out _ K1.out).mono ?_); rintro e w2 ⟨rfl, k1⟩; have K2 := Lib.hid (ktr K1.out k1); clear k1)
      | fail)
    go_ret2
    exact grwRes_nil K2.out
  · have e : cwE P C G O fs = evE P C G O := if_neg h1
    rw [e] at h ⊢
    have q : (evE P C G O != 0) = true := bne_iff_ne.2 h
    have q0 : (evE P C G O == 0) = false := beq_eq_false_iff_ne.2 h
    clear h h1 e FC
    generalize evE P C G O = E at *
    go_enter Try.func43, Try.ntmps43
    go_wp2_with (first
      | (go_at_call 46; (with_reducible refine (CE.out _).mono ?_); rintro e w1 ⟨rfl, k1⟩; have K1 := Lib.hid (ktr KA.out k1); clear k1)
      | fail)
    go_ret2
    exact grwRes_nil K1.out

/-- append of nothing -/
theorem wp_appendF0 {ops : Array Oper} {rest : List Oper} {o : Oper} {a : Act} {Q : Exit → Act → World → Prop} (hgd : o.guard = none) (s x : Operand)
    (ho : o.op = .call { callee := .builtin .append, args := #[s, x], argTypes := #[26, 26] })
    (base : Nat) (v : Value) (ad : Option Addr) (cap : Nat) (w : World) (hs : a.eval s = v) (hown : OwnsN 10 38 w base v []) (hn : ad = none → cap = 0) (hx : a.eval x = .slice ad 0 cap) (hbase : base ≤ w.heap.size)
    (h : ∀ v' w', OwnsN 10 38 w' base v' [] → Below base w w' → wpList Try.prog ops Q rest (a.put o.dst v') w') : wpList Try.prog ops Q (o :: rest) a w := by
  obtain ⟨i0, hi, hz0, hz1, hz2⟩ := info_parts Try.infoFail
  cases ad with
  | none =>
    obtain rfl := hn rfl
    exact wpList_append_own_none hgd s x 26 ho base 38 i0 10 Try.underlying26 hi v _ _ hs hown hx (h v w hown (Below.refl base w))
  | some ad =>
    refine wpList_append_own _ hgd s x 26 ho base 38 i0 _ 10 80 Try.underlying26 hi hz0 hz1 hz2 rfl (by decide) v _ _ hs hown ad 0 cap [] hx rfl (fun j u hu => by simp at hu) (fun u hu => by cases hu) ?_ ?_ hbase ?_
    · unfold maxLen; simp
    · simp
    · intro v' w' h1 h2 _
      exact h v' w' (by simpa [OwnsN, flatN] using h1) ((Below.refl base w).grown h2 hbase hown.ge)

set_option maxRecDepth 100000 in
set_option maxHeartbeats 16000000 in
theorem rgr_ok (P C G O : Int) (b0 off0 n cap : Nat) (fs : List (List Int)) (w : World) (hr : ReadsF w (.slice (some ⟨b0, off0, none⟩) n cap) fs) (hn : n = fs.length) (h : cwE P C G O fs = 0) :
    Calls Try.prog 43 #[.agg #[.int .i64 P, .int .i64 C, .int .i64 G, .int .i64 O], .slice (some ⟨b0, off0, none⟩) n cap] w (GrwRes (grwL P C G O fs) (grwE P C G O fs) w) := by
  obtain ⟨h1, h2⟩ := cwE_0 h
  have ev := evE_0 h1
  have h60 := checks_60 h2
  have hfl := cks_fl h2
  have CE := Lib.hid (fun w' => rev_run P C G O w')
  rw [h1] at CE
  have FC := Lib.hid (fun w' (k : Kpt w w') => rfcs_run _ fs w' (hr.kpt k))
  rw [h2] at FC
  have HFL : Hid (∀ k, k < n → failEL (fs.getD k []) = 0) := fun k hk => by rw [List.getD_eq_getElem?_getD, List.getElem?_eq_getElem (by omega)]; exact hfl _ (List.getElem_mem _)
  have HR := Lib.hid hr
  obtain ⟨wA, hwA⟩ : ∃ x, x = w.alloc (.cells #[.int .i64 P, .int .i64 C, .int .i64 G, .int .i64 O] 53) := ⟨_, rfl⟩
  have KA : Hid (Kpt w wA) := by rw [hwA]; exact (Kpt.refl w).alloc _
  have BC : Hid (Blk wA w.heap.size #[.int .i64 P, .int .i64 C, .int .i64 G, .int .i64 O] 53) := by rw [hwA]; exact Blk.made _ _ _
  obtain ⟨gk, hgk⟩ : ∃ f : Nat → List (List Int), ∀ k, gkF P G O fs k = f k := ⟨_, fun _ => rfl⟩
  have G00 : Hid (gk 0 = fs) := by unfold Hid; rw [← hgk]; rfl
  have GS : Hid (∀ k, gk (k + 1) = (gk k).set k (grL P G O (fs.getD k []))) := fun k => by rw [← hgk, ← hgk]; rfl
  have GL : Hid (∀ k, (gk k).length = n) := fun k => by rw [← hgk, gkF_len, hn]
  have GA : Hid (∀ k, k < n → (gk k).getD k [] = fs.getD k []) := fun k hk => by rw [← hgk, gkF_at P G O fs k (by omega) k (by omega), if_neg (Nat.lt_irrefl k)]
  have GA2 : Hid (∀ k, k < n → (gk (k + 1)).getD k [] = grL P G O (fs.getD k [])) := fun k hk => by rw [← hgk, gkF_at P G O fs k (by omega) (k + 1) (by omega), if_pos (by omega)]
  have FIN : Hid ((∀ j, j < n → (grL P G O (fs.getD j [])).getD 6 0 ≤ 1073741824) → ∀ w' a c, OwnsN 10 38 w' wA.heap.size (.slice a n c) (gk n) → Kpt w w' → GrwRes (grwL P C G O fs) (grwE P C G O fs) w (.returned (.tuple #[.slice a n c, .int .i64 0])) w') := fun hb w' a c ho k => by
    have eb : bigB P G O fs = false := big_f.2 (fun j hj => hb j (by omega))
    have e1 : grwE P C G O fs = 0 := by unfold grwE; rw [if_pos h, eb]; rfl
    have e2 : grwL P C G O fs = grA P G O fs := if_pos e1
    rw [e1, e2]
    refine ⟨_, _, _, rfl, OwnsN.readsG ho (by rw [GL.out, hn]; unfold grA; rw [List.length_map]) (grA_flb h) (fun k j hk hj => ?_), k⟩
    have hk : k < fs.length := by unfold grA at hk; rwa [List.length_map] at hk
    rw [grA_at P G O fs k hk, ← hgk, gkF_at P G O fs k hk n (by omega), if_pos (by omega)]
  have FIN8 : Hid (∀ j, j < n → 1073741824 < (grL P G O (fs.getD j [])).getD 6 0 → ∀ w', Kpt w w' → GrwRes (grwL P C G O fs) (grwE P C G O fs) w (.returned (.tuple #[.slice none 0 0, .int .i64 8])) w') := fun j hj hb w' k => by
    have e1 : grwE P C G O fs = 8 := by unfold grwE; rw [if_pos h, if_pos (big_t (by omega) hb)]
    have e2 : grwL P C G O fs = [] := if_neg (by rw [e1]; decide)
    rw [e1, e2]
    exact grwRes_nil k
  have hn60 : n ≤ 60 := by omega
  have HEV := Lib.hid ev
  clear h h1 h2 ev h60 hfl hgk
  obtain ⟨RX, hRX⟩ : ∃ x, x = grwL P C G O fs := ⟨_, rfl⟩
  obtain ⟨EX, hEX⟩ : ∃ x, x = grwE P C G O fs := ⟨_, rfl⟩
  rw [← hRX, ← hEX]
  rw [← hRX, ← hEX] at FIN
  simp only [← hRX, ← hEX] at FIN8
  clear hRX hEX
  go_enter Try.func43, Try.ntmps43
  go_upto_region 1 with (first | fail)
  rw [← hwA]
  have a0 : World.cell? wA ⟨w.heap.size, 0, none⟩ = some (.int .i64 P) := BC.out.cell 0
  have a1 : World.cell? wA ⟨w.heap.size, 1, none⟩ = some (.int .i64 C) := BC.out.cell 1
  have a2 : World.cell? wA ⟨w.heap.size, 2, none⟩ = some (.int .i64 G) := BC.out.cell 2
  have a3 : World.cell? wA ⟨w.heap.size, 3, none⟩ = some (.int .i64 O) := BC.out.cell 3
  clear hwA hr
  subst hn
  have mixed : Try.prog.follows .mixedOrders = true := by kernel_rfl
  go_wp2_with (first
    | (go_at_call 46; (with_reducible refine (CE.out _).mono ?_); rintro e w1 ⟨rfl, k1⟩; have V1 : Hid (Kpt wA w1) := k1; have K1 := Lib.hid (ktr KA.out k1); clear k1 a0 a1 a2 a3)
    | (go_at_call 86; (with_reducible refine (FC.out _ K1.out).mono ?_); rintro e w2 ⟨rfl, k1⟩; have V2 : Hid (Kpt wA w2) := ktr V1.out k1; have K2 := Lib.hid (ktr K1.out k1); clear k1)
    | (at_builtin; refine wp_appendFs rfl (.tmp 20) (.tmp 21) rfl wA.heap.size (.slice (some ⟨w2.heap.size, 0, none⟩) 0 0) [] fs b0 off0 cap _ rfl ⟨rfl, .inr ⟨w2.heap.size, 0, #[], rfl, V2.out.size, Blk.made w2 #[] 38, Nat.le_refl _, Nat.zero_le _, rfl, rfl⟩⟩ rfl (HR.out.kpt (Kpt.alloc K2.out _)) (by simp; omega) (by have := V2.out.size; simp; omega) ?_; intro v7 w7 o7 b7; have O7 : Hid (OwnsN 10 38 w7 wA.heap.size v7 (gk 0)) := (by unfold Hid; rw [G00.out]; exact o7); have V7 : Hid (Kpt wA w7) := Below.trans (Kpt.alloc V2.out _) b7; obtain ⟨c7, n7, d7, rfl, hn7⟩ := OwnsN.form o7; clear o7 b7)
    | fail)
  obtain rfl : n7 = fs.length := by have := hn7.out; simpa using this
  clear hn7
  obtain ⟨n, hn⟩ : ∃ x, x = fs.length := ⟨_, rfl⟩
  rw [← hn] at hn60 HFL GL GA GA2 FIN FIN8 O7 ⊢
  go_loopw [8] (fun i wr => ∃ k : Nat, k ≤ n ∧ i = .int .i64 (k : Int) ∧ Hid (OwnsN 10 38 wr wA.heap.size (.slice c7 n d7) (gk k)) ∧ Hid (∀ j, j < k → (grL P G O (fs.getD j [])).getD 6 0 ≤ 1073741824) ∧ Hid (Kpt wA wr)) (fun i _ => n - (intOf i).toNat)
  case atStart => exact ⟨0, Nat.zero_le _, rfl, O7.out, fun j hj => absurd hj (Nat.not_lt_zero j), V7.out⟩
  case round =>
    obtain ⟨k, hk, rfl, HO, HB, HV⟩ := hrel
    by_cases hlt : k < n
    · have FL := HFL.out k hlt
      have HGS := GS.out k
      have HGA := GA.out k hlt
      have HGA2 := GA2.out k hlt
      have HGL := GL.out k
      have F8 := Lib.hid (FIN8.out k hlt)
      have HB2 : Hid ((grL P G O (fs.getD k [])).getD 6 0 ≤ 1073741824 → ∀ j, j < k + 1 → (grL P G O (fs.getD j [])).getD 6 0 ≤ 1073741824) := fun hh j hj => by
        rcases Nat.lt_or_ge j k with q | q
        · exact HB.out j q
        · obtain rfl : j = k := by omega
          exact hh
      obtain ⟨gb, cap', cur, e, hge, hblk, hcell, hput⟩ := HO.out.opened (by rw [HGL]; omega)
      obtain rfl : c7 = some ⟨gb, 0, none⟩ := by injection e with e1 e2 e3
      have HGE := Lib.hid hge
      have HBL := Lib.hid hblk
      have HPUT := Lib.hid (fun z => hput k z (by rw [HGL]; omega))
      have h0 : wr.cell? ⟨gb, k * 10, none⟩ = some (.int .i64 (((gk k).getD k []).getD 0 0)) := hcell k 0 (by rw [HGL]; omega) (by decide)
      have h1 := hcell k 1 (by rw [HGL]; omega) (by decide)
      have h2 := hcell k 2 (by rw [HGL]; omega) (by decide)
      have h3 := hcell k 3 (by rw [HGL]; omega) (by decide)
      have h4 := hcell k 4 (by rw [HGL]; omega) (by decide)
      have h5 := hcell k 5 (by rw [HGL]; omega) (by decide)
      have h6 := hcell k 6 (by rw [HGL]; omega) (by decide)
      have h7 := hcell k 7 (by rw [HGL]; omega) (by decide)
      have h8 := hcell k 8 (by rw [HGL]; omega) (by decide)
      have h9 := hcell k 9 (by rw [HGL]; omega) (by decide)
      rw [HGA] at h0 h1 h2 h3 h4 h5 h6 h7 h8 h9 HPUT
      have PUT : Hid (∀ w', Kpt wr w' → ∀ z, OwnsN 10 38 (w'.setCell ⟨gb, k * 10 + 6, none⟩ (.int .i64 z)) wA.heap.size (.slice (some ⟨gb, 0, none⟩) n d7) ((gk k).set k (upd (fs.getD k []) z)) ∧ (w'.setCell ⟨gb, k * 10 + 6, none⟩ (.int .i64 z)).cell? ⟨gb, k * 10 + 6, none⟩ = some (.int .i64 z)) := fun w' kk z => by
        obtain ⟨gb', cap', cur', e', hge', hblk', hcell', hput'⟩ := (HO.out.kpt kk).opened (by rw [HGL]; omega)
        obtain ⟨rfl⟩ : gb = gb' := by injection e' with e1 e2 e3; injection e1 with e1; injection e1
        have h1 := hput' k z (by rw [HGL]; omega)
        rw [GA.out k hlt] at h1
        refine ⟨h1, ?_⟩
        obtain ⟨gb'', cap'', cur'', e'', hge'', hblk'', hcell'', hput''⟩ := h1.opened (by rw [List.length_set, HGL]; omega)
        obtain ⟨rfl⟩ : gb = gb'' := by injection e'' with e1 e2 e3; injection e1 with e1; injection e1
        have h2 := hcell'' k 6 (by rw [List.length_set, HGL]; omega) (by decide)
        rw [set_getF _ _ _ (by rw [HGL]; omega), if_pos rfl, upd_at _ _ (by decide), if_pos rfl] at h2
        exact h2
      have HSAME : (gk k).set k (fs.getD k []) = gk k := by
        have hk2 : k < (gk k).length := by rw [HGL]; omega
        have e3 : (gk k)[k] = fs.getD k [] := by
          have := HGA
          rw [List.getD_eq_getElem?_getD, List.getElem?_eq_getElem hk2] at this
          exact this
        rw [← e3]; exact List.set_getElem_self hk2
      clear e hge hblk hcell hput HGA
      generalize fs.getD k [] = l at *
      have fe : failE (l.getD 0 0) (l.getD 1 0) (l.getD 2 0) (l.getD 3 0) (l.getD 4 0) (l.getD 5 0) (l.getD 6 0) (l.getD 7 0) (l.getD 8 0) (l.getD 9 0) = 0 := FL
      obtain ⟨f1, -, f3, -⟩ := fail_0 fe
      obtain ⟨-, -, -, -, -, hu⟩ := fdue_t f1
      obtain ⟨hx, hb, hy⟩ := ftk_t f3
      have ho : 0 ≤ openL l ∧ openL l ≤ 1073741824 := openV_bd _ _ _ _ _ _ _ _ _ _
      have hop : openL l = l.getD 6 0 - l.getD 7 0 - l.getD 8 0 - l.getD 9 0 := by unfold openL openV; rw [if_pos fe]
      have FO := Lib.hid (fun w' => rfo_run (l.getD 0 0) (l.getD 1 0) (l.getD 2 0) (l.getD 3 0) (l.getD 4 0) (l.getD 5 0) (l.getD 6 0) (l.getD 7 0) (l.getD 8 0) (l.getD 9 0) w' hu hx hb hy)
      rw [← hop] at FO
      have FR := Lib.hid (fun w' => rfresh_run P C G O (openL l) HEV.out.2.2.1 HEV.out.2.2.2.1 ho w')
      have fb := hoN_bd (G := G) (O := O) ho HEV.out.2.2.1 HEV.out.2.2.2.1.1
      have i0 : (0 : Int) ≤ (k : Int) := by omega
      have i1 : (k : Int) < (n : Int) := by omega
      have hgr1 : l.getD 4 0 = P → grL P G O l = upd l (l.getD 6 0 + hoN G O (openL l)) := fun hq => if_pos hq
      have hgr0 : l.getD 4 0 ≠ P → grL P G O l = l := fun hq => if_neg hq
      have hup : (upd l (l.getD 6 0 + hoN G O (openL l))).getD 6 0 = l.getD 6 0 + hoN G O (openL l) := by rw [upd_at _ _ (by decide), if_pos rfl]
      have HGLk := Lib.hid HGL
      clear FL fe f1 f3 hx hb hy hop HGL
      by_cases hp4 : l.getD 4 0 = P
      · have q1 : (l.getD 4 0 == P) = true := beq_iff_eq.2 hp4
        rw [hgr1 hp4] at HGS HB2 F8
        rw [hup] at HB2 F8
        have GSk := Lib.hid HGS
        have PU : Hid (∀ w', Kpt wr w' → OwnsN 10 38 (w'.setCell ⟨gb, k * 10 + 6, none⟩ (.int .i64 (l.getD 6 0 + hoN G O (openL l)))) wA.heap.size (.slice (some ⟨gb, 0, none⟩) n d7) (gk (k + 1))) := fun w' kk => by
          rw [HGS]; exact (PUT.out w' kk _).1
        clear hgr1 hgr0 hup hp4 HGS HGA2 HSAME
        generalize openL l = o at *
        generalize hoN G O o = fr at *
        generalize hoR G O o = rr at *
        generalize l.getD 0 0 = z0 at *
        generalize l.getD 1 0 = z1 at *
        generalize l.getD 2 0 = z2 at *
        generalize l.getD 3 0 = z3 at *
        generalize l.getD 4 0 = z4 at *
        generalize l.getD 5 0 = z5 at *
        generalize l.getD 6 0 = z6 at *
        generalize l.getD 7 0 = z7 at *
        generalize l.getD 8 0 = z8 at *
        generalize l.getD 9 0 = z9 at *
        have m1 : IntKind.i64.wrap (z6 + fr) = z6 + fr := IntWalk.i64_in _ (by omega)
        clear hu ho fb
        go_upto_region 10 with (first | fail)
        have KV : Hid (Kpt wA wr) := HV
        have s0 := cell_k (q := wr) (h0)
        have s1 := cell_k (q := wr) (h1)
        have s2 := cell_k (q := wr) (h2)
        have s3 := cell_k (q := wr) (h3)
        have s4 := cell_k (q := wr) (h4)
        have s5 := cell_k (q := wr) (h5)
        have s6 := cell_k (q := wr) (h6)
        have s7 := cell_k (q := wr) (h7)
        have s8 := cell_k (q := wr) (h8)
        have s9 := cell_k (q := wr) (h9)
        have b0 := cell_k (q := wr) (a := ⟨w.heap.size, 0, none⟩) (v := .int .i64 P) ((BC.out.kpt KV.out).cell 0)
        have b1 := cell_k (q := wr) (a := ⟨w.heap.size, 1, none⟩) (v := .int .i64 C) ((BC.out.kpt KV.out).cell 1)
        have b2 := cell_k (q := wr) (a := ⟨w.heap.size, 2, none⟩) (v := .int .i64 G) ((BC.out.kpt KV.out).cell 2)
        have b3 := cell_k (q := wr) (a := ⟨w.heap.size, 3, none⟩) (v := .int .i64 O) ((BC.out.kpt KV.out).cell 3)
        refine quiet_k (q := wr) mixed (by kernel_rfl) ?_
        repeat (go_big_quiet_step (first | fail))
        refine wpQuiet_nil ?_
        intro w3 hw1
        obtain ⟨⟨wz, kz⟩, hw2⟩ := hw1
        have hw3 : w3 = wz := hw2
        clear hw2
        subst hw3
        have Vw3 : Hid (Kpt wA w3) := ktr KV.out kz
        have Rw3 : Hid (Kpt wr w3) := kz
        clear s0 s1 s2 s3 s4 s5 s6 s7 s8 s9 b0 b1 b2 b3 KV
        replace h0 := kz.cell h0
        replace h1 := kz.cell h1
        replace h2 := kz.cell h2
        replace h3 := kz.cell h3
        replace h4 := kz.cell h4
        replace h5 := kz.cell h5
        replace h6 := kz.cell h6
        replace h7 := kz.cell h7
        replace h8 := kz.cell h8
        replace h9 := kz.cell h9
        clear kz
        go_upto_region 11 with (first | fail)
        have KV : Hid (Kpt wA w3) := Vw3
        have s0 := cell_k (q := w3) (h0)
        have s1 := cell_k (q := w3) (h1)
        have s2 := cell_k (q := w3) (h2)
        have s3 := cell_k (q := w3) (h3)
        have s4 := cell_k (q := w3) (h4)
        have s5 := cell_k (q := w3) (h5)
        have s6 := cell_k (q := w3) (h6)
        have s7 := cell_k (q := w3) (h7)
        have s8 := cell_k (q := w3) (h8)
        have s9 := cell_k (q := w3) (h9)
        have b0 := cell_k (q := w3) (a := ⟨w.heap.size, 0, none⟩) (v := .int .i64 P) ((BC.out.kpt KV.out).cell 0)
        have b1 := cell_k (q := w3) (a := ⟨w.heap.size, 1, none⟩) (v := .int .i64 C) ((BC.out.kpt KV.out).cell 1)
        have b2 := cell_k (q := w3) (a := ⟨w.heap.size, 2, none⟩) (v := .int .i64 G) ((BC.out.kpt KV.out).cell 2)
        have b3 := cell_k (q := w3) (a := ⟨w.heap.size, 3, none⟩) (v := .int .i64 O) ((BC.out.kpt KV.out).cell 3)
        refine quiet_k (q := w3) mixed (by kernel_rfl) ?_
        repeat (go_big_quiet_step (first | (go_at_call 67; with_reducible refine calls_k (FO.out _)) | (go_at_call 41; with_reducible refine calls_k (FR.out _)) | fail))
        refine wpQuiet_nil ?_
        intro w4 hw1
        obtain ⟨⟨wz, kz⟩, hw2⟩ := hw1
        have hw3 : w4 = wz := hw2
        clear hw2
        subst hw3
        have Vw4 : Hid (Kpt wA w4) := ktr KV.out kz
        have Rw4 : Hid (Kpt w3 w4) := kz
        clear s0 s1 s2 s3 s4 s5 s6 s7 s8 s9 b0 b1 b2 b3 KV
        replace h0 := kz.cell h0
        replace h1 := kz.cell h1
        replace h2 := kz.cell h2
        replace h3 := kz.cell h3
        replace h4 := kz.cell h4
        replace h5 := kz.cell h5
        replace h6 := kz.cell h6
        replace h7 := kz.cell h7
        replace h8 := kz.cell h8
        replace h9 := kz.cell h9
        clear kz
        have R2 : Hid (Kpt wr w4) := ktr Rw3.out Rw4.out
        have f6 : World.frozen? w4 ⟨gb, k * 10 + 6, none⟩ = false := Blk.frozen (HBL.out.kpt R2.out) _
        have n6 := (PUT.out w4 R2.out (z6 + fr)).2
        have ON := Lib.hid (PU.out w4 R2.out)
        have VN : Hid (Kpt wA (w4.setCell ⟨gb, k * 10 + 6, none⟩ (.int .i64 (z6 + fr)))) := Kpt.setCell Vw4.out (p := ⟨gb, k * 10 + 6, none⟩) HGE.out _
        by_cases hz : 1073741824 < z6 + fr
        · have y1 : decide (1073741824 < z6 + fr) = true := decide_eq_true hz
          have HX := Lib.hid (F8.out hz)
          clear hz
          go_wp2
          go_ret2
          exact HX.out _ (ktr KA.out VN.out)
        · have y1 : decide (1073741824 < z6 + fr) = false := decide_eq_false hz
          have HX := Lib.hid (HB2.out (by omega))
          clear hz
          go_wp2
          go_roundw
          case rel => exact ⟨k + 1, by omega, by go_num, ON.out, HX.out, VN.out⟩
          case measure => simp [intOf]; omega
      · have q1 : (l.getD 4 0 == P) = false := beq_eq_false_iff_ne.2 hp4
        rw [hgr0 hp4] at HGS HB2
        rw [HSAME] at HGS
        have GSk := Lib.hid HGS
        have HX := Lib.hid (HB2.out hu.2)
        clear hgr1 hgr0 hup hp4 HGS HGA2 HSAME PUT F8 HB2
        generalize l.getD 0 0 = z0 at *
        generalize l.getD 1 0 = z1 at *
        generalize l.getD 2 0 = z2 at *
        generalize l.getD 3 0 = z3 at *
        generalize l.getD 4 0 = z4 at *
        generalize l.getD 5 0 = z5 at *
        generalize l.getD 6 0 = z6 at *
        generalize l.getD 7 0 = z7 at *
        generalize l.getD 8 0 = z8 at *
        generalize l.getD 9 0 = z9 at *
        have y1 : decide (1073741824 < z6) = false := decide_eq_false (by omega)
        clear hu ho fb
        go_upto_region 10 with (first | fail)
        have KV : Hid (Kpt wA wr) := HV
        have s0 := cell_k (q := wr) (h0)
        have s1 := cell_k (q := wr) (h1)
        have s2 := cell_k (q := wr) (h2)
        have s3 := cell_k (q := wr) (h3)
        have s4 := cell_k (q := wr) (h4)
        have s5 := cell_k (q := wr) (h5)
        have s6 := cell_k (q := wr) (h6)
        have s7 := cell_k (q := wr) (h7)
        have s8 := cell_k (q := wr) (h8)
        have s9 := cell_k (q := wr) (h9)
        have b0 := cell_k (q := wr) (a := ⟨w.heap.size, 0, none⟩) (v := .int .i64 P) ((BC.out.kpt KV.out).cell 0)
        have b1 := cell_k (q := wr) (a := ⟨w.heap.size, 1, none⟩) (v := .int .i64 C) ((BC.out.kpt KV.out).cell 1)
        have b2 := cell_k (q := wr) (a := ⟨w.heap.size, 2, none⟩) (v := .int .i64 G) ((BC.out.kpt KV.out).cell 2)
        have b3 := cell_k (q := wr) (a := ⟨w.heap.size, 3, none⟩) (v := .int .i64 O) ((BC.out.kpt KV.out).cell 3)
        refine quiet_k (q := wr) mixed (by kernel_rfl) ?_
        repeat (go_big_quiet_step (first | fail))
        refine wpQuiet_nil ?_
        intro w3 hw1
        obtain ⟨⟨wz, kz⟩, hw2⟩ := hw1
        have hw3 : w3 = wz := hw2
        clear hw2
        subst hw3
        have Vw3 : Hid (Kpt wA w3) := ktr KV.out kz
        have Rw3 : Hid (Kpt wr w3) := kz
        clear s0 s1 s2 s3 s4 s5 s6 s7 s8 s9 b0 b1 b2 b3 KV
        replace h0 := kz.cell h0
        replace h1 := kz.cell h1
        replace h2 := kz.cell h2
        replace h3 := kz.cell h3
        replace h4 := kz.cell h4
        replace h5 := kz.cell h5
        replace h6 := kz.cell h6
        replace h7 := kz.cell h7
        replace h8 := kz.cell h8
        replace h9 := kz.cell h9
        clear kz
        have ON : Hid (OwnsN 10 38 w3 wA.heap.size (.slice (some ⟨gb, 0, none⟩) n d7) (gk (k + 1))) := by unfold Hid; rw [GSk.out]; exact HO.out.kpt Rw3.out
        go_wp2
        go_roundw
        case rel => exact ⟨k + 1, by omega, by go_num, ON.out, HX.out, Vw3.out⟩
        case measure => simp [intOf]; omega
    · obtain rfl : k = n := by omega
      have HX := Lib.hid (FIN.out HB.out)
      have KV9 := Lib.hid (ktr KA.out HV.out)
      go_wp2
      go_ret2
      exact HX.out _ _ _ HO.out KV9.out
set_option maxHeartbeats 4000000 in
theorem rgr_nil (P C G O : Int) (a : Option Addr) (cap : Nat) (w : World) (hn : a = none → cap = 0) (h : evE P C G O = 0) :
    Calls Try.prog 43 #[.agg #[.int .i64 P, .int .i64 C, .int .i64 G, .int .i64 O], .slice a 0 cap] w (GrwRes [] 0 w) := by
  have CE := Lib.hid (fun w' => rev_run P C G O w')
  rw [h] at CE
  have FC := Lib.hid (fun w' => rfcs_run (.slice a 0 cap) [] w' (readsF_nil _ _ _))
  rw [show checksE [] = 0 from rfl] at FC
  have KA : Hid (Kpt w (w.alloc (.cells #[.int .i64 P, .int .i64 C, .int .i64 G, .int .i64 O] 53))) := (Kpt.refl w).alloc _
  clear h
  go_enter Try.func43, Try.ntmps43
  go_wp2_with (first
    | (go_at_call 46; (with_reducible refine (CE.out _).mono ?_); rintro e w1 ⟨rfl, k1⟩; have K1 := Lib.hid (ktr KA.out k1); clear k1)
    | (go_at_call 86; (with_reducible refine (FC.out _).mono ?_); rintro e w2 ⟨rfl, k1⟩; have K2 := Lib.hid (ktr K1.out k1); clear k1)
    | (at_builtin; refine wp_appendF0 rfl (.tmp 20) (.tmp 21) rfl w.heap.size (.slice (some ⟨w2.heap.size, 0, none⟩) 0 0) a cap _ rfl ⟨rfl, .inr ⟨w2.heap.size, 0, #[], rfl, K2.out.size, Blk.made w2 #[] 38, Nat.le_refl _, Nat.zero_le _, rfl, rfl⟩⟩ hn rfl (by have := K2.out.size; simp; omega) ?_; intro v7 w7 o7 b7; have K7 : Hid (Kpt w w7) := Below.trans (Kpt.alloc K2.out _) b7; obtain ⟨c7, n7, d7, rfl, hn7⟩ := OwnsN.form o7; clear o7 b7; obtain rfl : n7 = 0 := (by have := hn7.out; simpa using this))
    | fail)
  go_loopw [8] (fun i wr => i = .int .i64 0 ∧ Hid (Kpt w wr)) (fun _ _ => 0)
  case atStart => exact ⟨rfl, K7.out⟩
  case round =>
    obtain ⟨rfl, HK⟩ := hrel
    go_wp2
    go_ret2
    exact ⟨_, _, _, rfl, readsF_nil _ _ _, HK.out⟩
theorem rgr_any (P C G O : Int) (v : Value) (fs : List (List Int)) (w : World) (hr : ReadsF w v fs) (hn : NilQ v) :
    Calls Try.prog 43 #[.agg #[.int .i64 P, .int .i64 C, .int .i64 G, .int .i64 O], v] w (GrwRes (grwL P C G O fs) (grwE P C G O fs) w) := by
  by_cases h : cwE P C G O fs = 0
  · obtain ⟨a, cap, rfl, -, -, hc⟩ := _root_.id hr
    rcases Nat.eq_zero_or_pos fs.length with h0 | h0
    · obtain rfl : fs = [] := List.eq_nil_of_length_eq_zero h0
      have h1 := (cwE_0 h).1
      have e1 : grwE P C G O [] = 0 := by unfold grwE; rw [if_pos h]; rfl
      have e2 : grwL P C G O [] = [] := by unfold grwL; rw [if_pos e1]; rfl
      rw [e1, e2]
      exact rgr_nil P C G O a cap w (fun e => by subst e; exact hn _ _ rfl) h1
    · obtain ⟨b, off, rfl, -⟩ := hc 0 h0
      exact rgr_ok P C G O b off _ cap fs w hr rfl h
  · have e1 : grwE P C G O fs = cwE P C G O fs := if_neg h
    have e2 : grwL P C G O fs = [] := if_neg (by rw [e1]; exact h)
    rw [e1, e2]
    exact rgr_no P C G O v fs w hr h

end Go.Proofs.Ytgccipmeiceonaa
