/-
  What the document's own answer on reading a price is: PriceRead.
-/
import Derived.Test.YtoahdhhbjljjlaaDoorPriceR
namespace Go.Proofs.YtoahdhhbjljjlaaDoor
open Go.RowKit
set_option linter.unusedVariables false

/-- sign by sign -/
def rst : List UInt8 → Nat → Nat → Nat → Nat → Bool → Option (Nat × Nat)
  | [], n, part, _, _, _ => some (n, part)
  | c :: t, n, part, unit, many, point =>
    if c = 46 ∧ point = false then rst t n part unit many true
    else if digB c = false then none
    else if point = true then rst t n (part + unit * (c.toNat - 48)) (unit / 10) many true
    else if 9 < many + 1 then none
    else rst t (10 * n + (c.toNat - 48)) part unit (many + 1) false
theorem rst_bd {l : List UInt8} : ∀ {n part unit many : Nat} {point : Bool} {x y : Nat}, n < 10 ^ many → many ≤ 9 → part + 10 * unit ≤ 10000 → part ≤ 9999 → rst l n part unit many point = some (x, y) → x < 1000000000 ∧ y ≤ 9999 := by
  induction l with
  | nil =>
    intro n part unit many point x y hn hm hp hq h
    rw [rst] at h
    obtain ⟨rfl, rfl⟩ : n = x ∧ part = y := by simpa using h
    have : 10 ^ many ≤ 10 ^ 9 := Nat.pow_le_pow_right (by decide) hm
    have e : (10 : Nat) ^ 9 = 1000000000 := by decide
    omega
  | cons c t ih =>
    intro n part unit many point x y hn hm hp hq h
    rw [rst] at h
    by_cases a : c = 46 ∧ point = false
    · rw [if_pos a] at h; exact ih hn hm hp hq h
    · rw [if_neg a] at h
      by_cases b : digB c = false
      · rw [if_pos b] at h; cases h
      · rw [if_neg b] at h
        have hb : digB c = true := by simpa using b
        have hd : 48 ≤ c.toNat ∧ c.toNat ≤ 57 := of_decide_eq_true hb
        by_cases e : point = true
        · rw [if_pos e] at h
          have : unit * (c.toNat - 48) ≤ unit * 9 := Nat.mul_le_mul_left _ (by omega)
          exact ih hn hm (by omega) (by omega) h
        · rw [if_neg e] at h
          by_cases g : 9 < many + 1
          · rw [if_pos g] at h; cases h
          · rw [if_neg g] at h
            refine ih ?_ (by omega) hp hq h
            rw [Nat.pow_succ]; omega
theorem rst_whole {l r : List UInt8} : ∀ {n many : Nat}, l.all digB = true → many + l.length ≤ 9 → rst (l ++ r) n 0 1000 many false = rst r (n * 10 ^ l.length + valD l) 0 1000 (many + l.length) false := by
  induction l with
  | nil => intro n many _ _; simp [valD]
  | cons c t ih =>
    intro n many ha hl
    rw [List.all_cons, Bool.and_eq_true] at ha
    obtain ⟨hc, ht⟩ := ha
    have hd : 48 ≤ c.toNat ∧ c.toNat ≤ 57 := of_decide_eq_true hc
    have ne : ¬ (c = 46 ∧ false = false) := fun k => by rw [k.1] at hc; revert hc; decide
    rw [List.length_cons] at hl
    rw [List.cons_append, rst, if_neg ne, if_neg (by rw [hc]; simp), if_neg (by simp), if_neg (by omega), ih ht (by omega)]
    have e : (10 * n + (c.toNat - 48)) * 10 ^ t.length + valD t = n * 10 ^ (c :: t).length + valD (c :: t) := by
      rw [show c :: t = [c] ++ t from rfl, val_app, val_one, List.length_append, List.length_singleton, Nat.add_comm 1, Nat.pow_succ, Nat.add_mul, Nat.mul_comm 10 n, Nat.mul_assoc, Nat.mul_comm 10 (10 ^ t.length)]
      omega
    rw [e, List.length_cons, show many + 1 + t.length = many + (t.length + 1) by omega]
theorem rst_frac {l : List UInt8} {n many : Nat} (ha : l.all digB = true) (hl : l.length ≤ 4) : rst l n 0 1000 many true = some (n, valD (l ++ [48, 48, 48, 48].drop l.length)) := by
  have step : ∀ (c : UInt8) (t : List UInt8) (part unit : Nat), digB c = true → rst (c :: t) n part unit many true = rst t n (part + unit * (c.toNat - 48)) (unit / 10) many true := by
    intro c t part unit hc
    rw [rst, if_neg (by simp), if_neg (by rw [hc]; simp), if_pos rfl]
  have z : (48 : UInt8).toNat - 48 = 0 := rfl
  match l, hl with
  | [], _ => rfl
  | [a], _ =>
    simp only [List.all_cons, List.all_nil, Bool.and_true] at ha
    rw [step _ _ _ _ ha, rst]
    simp only [valD, List.length_cons, List.length_nil, List.drop, List.cons_append, List.nil_append, List.foldl_cons, List.foldl_nil, z]
    congr 2; omega
  | [a, b], _ =>
    simp only [List.all_cons, List.all_nil, Bool.and_true, Bool.and_eq_true] at ha
    rw [step _ _ _ _ ha.1, step _ _ _ _ ha.2, rst]
    simp only [valD, List.length_cons, List.length_nil, List.drop, List.cons_append, List.nil_append, List.foldl_cons, List.foldl_nil, z]
    congr 2; omega
  | [a, b, c], _ =>
    simp only [List.all_cons, List.all_nil, Bool.and_true, Bool.and_eq_true] at ha
    rw [step _ _ _ _ ha.1, step _ _ _ _ ha.2.1, step _ _ _ _ ha.2.2, rst]
    simp only [valD, List.length_cons, List.length_nil, List.drop, List.cons_append, List.nil_append, List.foldl_cons, List.foldl_nil, z]
    congr 2; omega
  | [a, b, c, d], _ =>
    simp only [List.all_cons, List.all_nil, Bool.and_true, Bool.and_eq_true] at ha
    rw [step _ _ _ _ ha.1, step _ _ _ _ ha.2.1, step _ _ _ _ ha.2.2.1, step _ _ _ _ ha.2.2.2, rst]
    simp only [valD, List.length_cons, List.length_nil, List.drop, List.cons_append, List.nil_append, List.foldl_cons, List.foldl_nil]
    congr 2; omega

/-- a text that is a price is read so -/
theorem rst_ok {s : ByteArray} (h : rdB s = true) : ∃ n part : Nat, rst s.data.toList 0 0 1000 0 false = some (n, part) ∧ ((10000 * n + part : Nat) : Int) = rdV s := by
  obtain ⟨h1, hpt, f4, w9, a1, a2, a3⟩ := rd_t h
  obtain ⟨w0, _, wa⟩ := whole_size h1
  have wa' : (whS s).data.toList.all digB = true := wa
  have cb := cut_back s
  have nl := numS_list s
  have p4 : (10 : Nat) ^ 4 = 10000 := by decide
  have vv : rdV s = ((valD (whS s).data.toList * 10000 + valD ((frS s).data.toList ++ [48, 48, 48, 48].drop (frS s).size) : Nat) : Int) := by
    unfold rdV
    rw [nl, List.append_assoc, val_app]
    have : ((frS s).data.toList ++ [48, 48, 48, 48].drop (frS s).size).length = 4 := by rw [List.length_append, size_list, List.length_drop]; simp; omega
    rw [this, p4]
  have wl : 0 + (whS s).data.toList.length ≤ 9 := by rw [size_list]; omega
  rcases hpt with ⟨b, z⟩ | ⟨b, fr⟩
  · rw [b, if_neg (by simp)] at cb
    have fe := frS_none b
    refine ⟨valD (whS s).data.toList, 0, ?_, ?_⟩
    · rw [cb]
      have := rst_whole (r := []) (n := 0) (many := 0) wa' wl
      rw [List.append_nil, Nat.zero_mul, Nat.zero_add] at this
      rw [this, rst]
    · rw [vv, fe]
      have : valD ((⟨#[]⟩ : ByteArray).data.toList ++ [48, 48, 48, 48].drop (⟨#[]⟩ : ByteArray).size) = 0 := by decide
      rw [this]; omega
  · rw [b, if_pos rfl] at cb
    obtain ⟨f0, f1, fa⟩ := frac_size fr
    refine ⟨valD (whS s).data.toList, valD ((frS s).data.toList ++ [48, 48, 48, 48].drop (frS s).size), ?_, by rw [vv]; omega⟩
    rw [cb, rst_whole wa' wl, Nat.zero_mul, Nat.zero_add, rst, if_pos ⟨rfl, rfl⟩]
    have := rst_frac (n := valD (whS s).data.toList) (many := 0 + (whS s).data.toList.length) (l := (frS s).data.toList) fa (by rw [size_list]; exact f1)
    rw [size_list] at this
    exact this

theorem rst_at {s : ByteArray} {k : Nat} (h : k < s.size) (n part unit many : Nat) (point : Bool) : rst (s.data.toList.drop k) n part unit many point =
    (if s[k] = 46 ∧ point = false then rst (s.data.toList.drop (k + 1)) n part unit many true
    else if digB s[k] = false then none
    else if point = true then rst (s.data.toList.drop (k + 1)) n (part + unit * (s[k].toNat - 48)) (unit / 10) many true
    else if 9 < many + 1 then none
    else rst (s.data.toList.drop (k + 1)) (10 * n + (s[k].toNat - 48)) part unit (many + 1) false) := by
  rw [List.drop_eq_getElem_cons (by simpa using h), rst]; rfl
/-- what PriceRead answers -/
def rrdE (s : ByteArray) : Int := match rst s.data.toList 0 0 1000 0 false with
  | none => 1
  | some (n, part) => if shS ((10000 * n + part : Nat) : Int) = s then (if prcB ((10000 * n + part : Nat) : Int) = true then 0 else 3) else 1
def rrdR (s : ByteArray) : Int := match rst s.data.toList 0 0 1000 0 false with
  | none => 0
  | some (n, part) => if shS ((10000 * n + part : Nat) : Int) = s ∧ prcB ((10000 * n + part : Nat) : Int) = true then ((10000 * n + part : Nat) : Int) else 0
theorem rrd_none {s : ByteArray} (h : rst s.data.toList 0 0 1000 0 false = none) : rrdE s = 1 ∧ rrdR s = 0 := by unfold rrdE rrdR; rw [h]; exact ⟨rfl, rfl⟩
def RRd (s : ByteArray) (w : World) (e : Ending) (w' : World) : Prop := e = .returned (.tuple #[.int .i64 (rrdR s), .int .i64 (rrdE s)]) ∧ Kpt w w'
theorem rrd_no {s : ByteArray} {w w' : World} (h : rst s.data.toList 0 0 1000 0 false = none) (g : Kpt w w') : RRd s w (.returned (.tuple #[.int .i64 0, .int .i64 1])) w' := by
  obtain ⟨a, b⟩ := rrd_none h
  exact ⟨by rw [a, b], g⟩
theorem rchkp_ok (p : Int) (h : prcB p = true) (w : World) : Calls Tryd.prog 12 #[.int .i64 p] w fun e w' => e = .returned (.int .i64 0) ∧ w = w' := by
  obtain ⟨p0, p1⟩ := prc_t h
  clear h
  go_enter Tryd.func12, Tryd.ntmps12
  go_wp2_with (go_at_call 28; (with_reducible refine (between_t _ _ _ _ p0 p1).mono ?_); rintro e w' ⟨rfl, rfl⟩)
  go_ret
  exact ⟨rfl, rfl⟩
theorem rchkp_no (p : Int) (h : prcB p = false) (w : World) : Calls Tryd.prog 12 #[.int .i64 p] w fun e w' => e = .returned (.int .i64 3) ∧ w = w' := by
  have H := Lib.hid (show p < 0 ∨ 1099511627776 < p from by have := prc_f h; omega)
  clear h
  go_enter Tryd.func12, Tryd.ntmps12
  go_wp2_with (go_at_call 28; (with_reducible refine (between_f _ _ _ _ H.out).mono ?_); rintro e w' ⟨rfl, rfl⟩)
  go_ret
  exact ⟨rfl, rfl⟩

set_option maxRecDepth 100000 in
set_option maxHeartbeats 2000000 in
theorem rread_any (s : ByteArray) (hs : s.size < 4294967281) (w : World) :
    Calls Tryd.prog 14 #[.string s] w (RRd s w) := by
  go_enter Tryd.func14, Tryd.ntmps14
  go_wp2
  go_loop [4, 5, 6, 7, 8, 9] (fun vn vp vt vu vm vi => ∃ (k n part unit many : Nat) (pt : Bool), vi = .int .i64 k ∧ vn = .int .i64 n ∧ vp = .int .i64 part ∧ vt = .bool pt ∧ vu = .int .i64 unit ∧ vm = .int .i64 many ∧ k ≤ s.size ∧ n < 1000000000 ∧ Hid (n < 10 ^ many) ∧ many ≤ 9 ∧ part ≤ 9999 ∧ unit ≤ 1000 ∧ Hid (part + 10 * unit ≤ 10000) ∧ Hid (rst (s.data.toList.drop k) n part unit many pt = rst s.data.toList 0 0 1000 0 false)) (fun _ _ _ _ _ vi => s.size - (intOf vi).toNat)
  case atStart => exact ⟨0, 0, 0, 1000, 0, false, rfl, rfl, rfl, rfl, rfl, rfl, Nat.zero_le _, by omega, by unfold Hid; decide, by omega, by omega, by omega, by unfold Hid; omega, by unfold Hid; rw [List.drop_zero]⟩
  case round =>
    obtain ⟨k, n, part, unit, many, pt, rfl, rfl, rfl, rfl, rfl, rfl, hk, n9, HN, m9, p4, u3, HP, HR⟩ := hrel
    by_cases hlt : k < s.size
    · have st := rst_at hlt n part unit many pt
      rw [HR.out] at st
      have b0 : s[k].toNat < 256 := UInt8.toNat_lt _
      by_cases c46 : s[k] = 46
      · have e46 : (s[k].toNat : Int) = 46 := by rw [c46]; rfl
        cases pt with
        | false =>
          rw [if_pos ⟨c46, rfl⟩] at st
          have ST := Lib.hid st
          clear st c46
          go_wp2
          go_round
          case rel => exact ⟨k + 1, n, part, unit, many, true, by go_num, rfl, rfl, rfl, rfl, rfl, by omega, n9, HN, m9, p4, u3, HP, ST.out.symm⟩
          case measure => simp [intOf]; omega
        | true =>
          rw [if_neg (by simp), if_pos (by rw [c46]; decide)] at st
          have ST := Lib.hid st
          clear st c46
          go_wp2
          go_ret2
          exact rrd_no ST.out (Kpt.refl _)
      · have n46 : ¬ (s[k].toNat : Int) = 46 := fun e => c46 (UInt8.toNat_inj.1 (by show s[k].toNat = 46; omega))
        have q46 : ((s[k].toNat : Int) == 46) = false := beq_eq_false_iff_ne.2 n46
        rw [if_neg (fun g => c46 g.1)] at st
        cases hd : digB s[k] with
        | false =>
          rw [if_pos hd] at st
          have h2 : ¬ (48 ≤ s[k].toNat ∧ s[k].toNat ≤ 57) := of_decide_eq_false hd
          have ST := Lib.hid st
          clear st hd c46 n46
          by_cases lo : (s[k].toNat : Int) < 48
          · clear h2
            go_wp2
            go_ret2
            exact rrd_no ST.out (Kpt.refl _)
          · have hi : 57 < (s[k].toNat : Int) := by omega
            clear h2
            go_wp2
            go_ret2
            exact rrd_no ST.out (Kpt.refl _)
        | true =>
          rw [if_neg (by rw [hd]; simp)] at st
          have h2 : 48 ≤ s[k].toNat ∧ s[k].toNat ≤ 57 := of_decide_eq_true hd
          obtain ⟨h3, h4⟩ := h2
          have lo : ¬ (s[k].toNat : Int) < 48 := by omega
          have hi : ¬ 57 < (s[k].toNat : Int) := by omega
          cases pt with
          | true =>
            rw [if_pos rfl] at st
            obtain ⟨z, hz⟩ : ∃ z : Nat, unit * (s[k].toNat - 48) = z := ⟨_, rfl⟩
            have z9 : z ≤ unit * 9 := by rw [← hz]; exact Nat.mul_le_mul_left _ (by omega)
            have hw : IntKind.i64.wrap ((unit : Int) * ((s[k].toNat : Int) - 48)) = (z : Int) := by
              have : (unit : Int) * ((s[k].toNat : Int) - 48) = (z : Int) := by rw [← hz, Int.natCast_mul, Int.ofNat_sub h3]; rfl
              rw [this]; exact IntWalk.i64_in _ (by omega)
            have hp := HP.out
            rw [hz] at st
            have ST := Lib.hid st
            have HP2 : Hid (part + z + 10 * (unit / 10) ≤ 10000) := by unfold Hid; omega
            have p5 : part + z ≤ 9999 := by omega
            clear st hd c46 n46 hz hp
            go_wp2
            go_round
            case rel => exact ⟨k + 1, n, part + z, unit / 10, many, true, by go_num, rfl, by go_num, rfl, by go_num, rfl, by omega, n9, HN, m9, p5, by omega, HP2, ST.out.symm⟩
            case measure => simp [intOf]; omega
          | false =>
            rw [if_neg (by simp)] at st
            by_cases m8 : many = 9
            · subst m8
              rw [if_pos (by omega)] at st
              have ST := Lib.hid st
              clear st hd c46 n46
              go_wp2
              go_ret2
              exact rrd_no ST.out (Kpt.refl _)
            · rw [if_neg (by omega)] at st
              have hn := HN.out
              have HN2 : Hid (10 * n + (s[k].toNat - 48) < 10 ^ (many + 1)) := by unfold Hid; rw [Nat.pow_succ]; omega
              have n10 : 10 * n + (s[k].toNat - 48) < 1000000000 := by
                have a := HN2.out
                have : 10 ^ (many + 1) ≤ 10 ^ 9 := Nat.pow_le_pow_right (by decide) (by omega)
                have e : (10 : Nat) ^ 9 = 1000000000 := by decide
                omega
              have ST := Lib.hid st
              have m10 : many + 1 ≤ 9 := by omega
              obtain ⟨x, hx⟩ : ∃ x, 10 * n + (s[k].toNat - 48) = x := ⟨_, rfl⟩
              have HX : Hid (10 * (n : Int) + ((s[k].toNat : Int) - 48) = (x : Int)) := by unfold Hid; omega
              rw [hx] at ST HN2 n10
              clear st hd c46 n46 hx hn m8
              go_wp2
              go_round
              case rel => exact ⟨k + 1, x, part, unit, many + 1, false, by go_num, by rw [HX.out], rfl, rfl, rfl, by go_num, by omega, n10, HN2, m10, p4, u3, HP, ST.out.symm⟩
              case measure => simp [intOf]; omega
    · have hr := HR.out
      rw [List.drop_of_length_le (by rw [size_list]; omega), rst] at hr
      obtain ⟨P, hP⟩ : ∃ P : Nat, 10000 * n + part = P := ⟨_, rfl⟩
      have P9 : (P : Int) < 10000000000000 := by omega
      have HPI : Hid (10000 * (n : Int) + (part : Int) = (P : Int)) := by unfold Hid; omega
      have SH := Lib.hid (rshow_loop (P : Int) (by omega) P9 w)
      have EE : Hid (rrdE s = (if shS (P : Int) = s then (if prcB (P : Int) = true then 0 else 3) else 1) ∧ rrdR s = (if shS (P : Int) = s ∧ prcB (P : Int) = true then (P : Int) else 0)) := by
        unfold Hid rrdE rrdR; rw [← hr]; simp only [hP]; exact ⟨trivial, trivial⟩
      have beqT : ∀ (a b : ByteArray), a = b → (a.toList == b.toList) = true := fun a b e => by rw [e]; simp
      have beqF : ∀ (a b : ByteArray), ¬ a = b → (a.toList == b.toList) = false := fun a b e => by
        rw [toList_data, toList_data, beq_eq_false_iff_ne]; exact fun g => e (bytes_eq g)
      have OK := Lib.hid (fun (h : prcB (P : Int) = true) w => rchkp_ok (P : Int) h w)
      have NO := Lib.hid (fun (h : prcB (P : Int) = false) w => rchkp_no (P : Int) h w)
      obtain ⟨pb, hpb⟩ : ∃ pb, prcB (P : Int) = pb := ⟨_, rfl⟩
      generalize shS (P : Int) = t at SH EE
      have hpi := HPI.out
      by_cases ht : t = s
      · have q1 := beqT t s ht
        have q2 : (t.toList != s.toList) = false := by rw [bne, q1]; rfl
        cases pb with
        | true =>
          have PC := Lib.hid (OK.out hpb)
          have E2 : Hid (rrdE s = 0 ∧ rrdR s = (P : Int)) := by obtain ⟨a, b⟩ := EE.out; exact ⟨by rw [a, if_pos ht, if_pos hpb], by rw [b, if_pos ⟨ht, hpb⟩]⟩
          clear hr beqT beqF hP ht hpb EE OK NO
          go_wp2_with (first
            | (go_at_call 13; (with_reducible refine SH.out.mono ?_); rintro e w1 ⟨rfl, g1⟩; have G1 := Lib.hid g1; clear g1)
            | (go_at_call 12; (with_reducible refine (PC.out _).mono ?_); rintro e w' ⟨rfl, rfl⟩))
          go_ret2
          exact ⟨ret_tup2 E2.out.2.symm E2.out.1.symm, G1.out⟩
        | false =>
          have PC := Lib.hid (NO.out hpb)
          have E2 : Hid (rrdE s = 3 ∧ rrdR s = 0) := by obtain ⟨a, b⟩ := EE.out; exact ⟨by rw [a, if_pos ht, if_neg (by rw [hpb]; simp)], by rw [b, if_neg (fun g => by rw [hpb] at g; cases g.2)]⟩
          clear hr beqT beqF hP ht hpb EE OK NO
          go_wp2_with (first
            | (go_at_call 13; (with_reducible refine SH.out.mono ?_); rintro e w1 ⟨rfl, g1⟩; have G1 := Lib.hid g1; clear g1)
            | (go_at_call 12; (with_reducible refine (PC.out _).mono ?_); rintro e w' ⟨rfl, rfl⟩))
          go_ret2
          exact ⟨ret_tup2 E2.out.2.symm E2.out.1.symm, G1.out⟩
      · have q1 := beqF t s ht
        have q2 : (t.toList != s.toList) = true := by rw [bne, q1]; rfl
        have E2 : Hid (rrdE s = 1 ∧ rrdR s = 0) := by obtain ⟨a, b⟩ := EE.out; exact ⟨by rw [a, if_neg ht], by rw [b, if_neg (fun g => ht g.1)]⟩
        clear hr beqT beqF hP ht hpb EE OK NO
        go_wp2_with (go_at_call 13; (with_reducible refine SH.out.mono ?_); rintro e w1 ⟨rfl, g1⟩; have G1 := Lib.hid g1; clear g1)
        go_ret2
        exact ⟨ret_tup2 E2.out.2.symm E2.out.1.symm, G1.out⟩

/-- the two ways of reading answer the same -/
theorem read_both (s : ByteArray) : rrdE s = rdE s ∧ rrdR s = rdR s := by
  by_cases h : rdB s = true
  · obtain ⟨n, part, r1, r2⟩ := rst_ok h
    unfold rrdE rrdR rdE rdR
    rw [r1]
    simp only [r2, show_read h, h, if_true, true_and]
    first | done | exact ⟨trivial, trivial⟩
  · unfold rdE rdR
    rw [if_neg h, if_neg (fun g => h g.1)]
    cases hr : rst s.data.toList 0 0 1000 0 false with
    | none => exact rrd_none hr
    | some x =>
      obtain ⟨n, part⟩ := x
      obtain ⟨b1, b2⟩ := rst_bd (by decide) (by decide) (by decide) (by decide) hr
      have ne : ¬ shS ((10000 * n + part : Nat) : Int) = s := fun e => by
        have := (read_show' (p := ((10000 * n + part : Nat) : Int)) (by omega) (by omega)).1
        rw [e] at this
        exact h this
      unfold rrdE rrdR
      rw [hr]
      simp only
      rw [if_neg ne, if_neg (fun g => ne g.1)]
      exact ⟨rfl, rfl⟩

end Go.Proofs.YtoahdhhbjljjlaaDoor
