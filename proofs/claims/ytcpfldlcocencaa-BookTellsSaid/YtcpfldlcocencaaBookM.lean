/-
  What Balance of package book does.
-/
import Derived.Test.YtcpfldlcocencaaBookL
namespace Go.Proofs.Ytcpfldlcocencaa
open Go.RowKit
set_option linter.unusedVariables false

/-- the amount of the first line of an account and a unit -/
def balF : List (Int × Int × Int) → Int → Int → Int
  | [], _, _ => 0
  | p :: l, a, u => if p.1 = a ∧ p.2.1 = u then p.2.2 else balF l a u
theorem bal_sum {b : Int} {l : List (Int × Int × Int)} (h : Strict b l) (a u : Int) : balF l a u = sumAt l a u := by
  induction l generalizing b with
  | nil => rfl
  | cons p l ih =>
    unfold balF sumAt
    by_cases hq : p.1 = a ∧ p.2.1 = u
    · rw [if_pos hq, if_pos hq]
      have : sumAt l a u = 0 := sumAt_none fun q hq' e => by
        have := strict_lo h.2.2 q hq'
        unfold plc at this
        rw [e.1, e.2, hq.1, hq.2] at this
        omega
      omega
    · rw [if_neg hq, if_neg hq, ih h.2.2]; omega
/-- what Balance answers -/
def balE (l : List (Int × Int × Int)) (a u : Int) : Int := if linE l ≠ 0 then linE l else if plB a u then 0 else 3
def balR (l : List (Int × Int × Int)) (a u : Int) : Int := if balE l a u = 0 then balF l a u else 0

def BalIs (l : List (Int × Int × Int)) (a u : Int) (w : World) (e : Ending) (w' : World) : Prop := e = .returned (.tuple #[.int .i64 (balR l a u), .int .i64 (balE l a u)]) ∧ Grew w w'

theorem balance_bad (v : Value) (l : List (Int × Int × Int)) (a u : Int) (w : World) (hl : ReadsP w v l) (h : linE l ≠ 0) : Calls Try.prog 11 #[v, .int .i64 a, .int .i64 u] w (BalIs l a u w) := by
  have LB := Lib.hid (lines_any v l w hl)
  have he : balE l a u = linE l := by unfold balE; rw [if_pos h]
  have HE := Lib.hid he
  have HR : Hid (balR l a u = 0) := by unfold Hid balR; rw [he, if_neg h]
  have q : (linE l != 0) = true := bne_iff_ne.2 h
  clear h hl he
  generalize linE l = E at *
  go_enter Try.func11, Try.ntmps11
  go_wp2_with (go_at_call 21; (with_reducible refine LB.out.mono ?_); rintro e w1 ⟨rfl, g1⟩)
  go_ret2
  exact ⟨ret_tup2 HR.out.symm HE.out.symm, g1⟩

theorem balance_rng (v : Value) (l : List (Int × Int × Int)) (a u : Int) (w : World) (hl : ReadsP w v l) (h : linE l = 0) (hp : plB a u = false) : Calls Try.prog 11 #[v, .int .i64 a, .int .i64 u] w (BalIs l a u w) := by
  have LB := Lib.hid (h ▸ lines_any v l w hl)
  have PB := Lib.hid (fun w => hp ▸ isPlace_any a u w)
  have he : balE l a u = 3 := by unfold balE; rw [if_neg (by simpa using h), hp]; rfl
  have HE := Lib.hid he
  have HR : Hid (balR l a u = 0) := by unfold Hid balR; rw [he, if_neg (by decide)]
  clear h hl he hp
  go_enter Try.func11, Try.ntmps11
  go_wp2_with (first
    | (go_at_call 21; (with_reducible refine LB.out.mono ?_); rintro e w1 ⟨rfl, g1⟩)
    | (go_at_call 31; (with_reducible refine (PB.out _).mono ?_); rintro e w2 ⟨rfl, rfl⟩))
  go_ret2
  exact ⟨ret_tup2 HR.out.symm HE.out.symm, g1⟩

theorem bal_here {p : Int × Int × Int} {l : List (Int × Int × Int)} {a u : Int} (h1 : p.1 = a) (h2 : p.2.1 = u) : balF (p :: l) a u = p.2.2 := by unfold balF; rw [if_pos ⟨h1, h2⟩]
theorem bal_next {p : Int × Int × Int} {l : List (Int × Int × Int)} {a u : Int} (h : ¬ (p.1 = a ∧ p.2.1 = u)) : balF (p :: l) a u = balF l a u := by rw [balF, if_neg h]

set_option maxHeartbeats 1000000 in
theorem balance_some (b off cap : Nat) (l : List (Int × Int × Int)) (a u : Int) (w : World) (hl : ReadsP w (.slice (some ⟨b, off, none⟩) l.length cap) l) (hc : ∀ j, j < l.length → PtAt w b (off + j * 3) (l.getD j default)) (h : linE l = 0) (hp : plB a u = true) :
    Calls Try.prog 11 #[.slice (some ⟨b, off, none⟩) l.length cap, .int .i64 a, .int .i64 u] w (BalIs l a u w) := by
  have LB := Lib.hid (h ▸ lines_any _ l w hl)
  have PB := Lib.hid (fun w => hp ▸ isPlace_any a u w)
  have he : balE l a u = 0 := by unfold balE; rw [if_neg (by simpa using h), hp]; rfl
  have HE := Lib.hid he
  have HR : Hid (balR l a u = balF l a u) := by unfold Hid balR; rw [he, if_pos rfl]
  have l4 := (lin_0 h).1
  have HC := Lib.hid hc
  clear h hl he hp hc
  go_enter Try.func11, Try.ntmps11
  go_wp2_with (first
    | (go_at_call 21; (with_reducible refine LB.out.mono ?_); rintro e w1 ⟨rfl, g1⟩; have G1 := Lib.hid g1; clear g1)
    | (go_at_call 31; (with_reducible refine (PB.out _).mono ?_); rintro e w2 ⟨rfl, rfl⟩))
  go_loopw [22] (fun i wr => ∃ k : Nat, k ≤ l.length ∧ i = .int .i64 k ∧ Hid (balF l a u = balF (l.drop k) a u) ∧ Hid (Grew w wr)) (fun i _ => l.length - (intOf i).toNat)
  case atStart => exact ⟨0, Nat.zero_le _, rfl, rfl, G1.out⟩
  case round =>
    obtain ⟨k, hk, rfl, HA, HG⟩ := hrel
    by_cases hlt : k < l.length
    · obtain ⟨c0, c1, c2⟩ := (HC.out k hlt).grew HG.out
      have hd := drop_getD hlt
      generalize l.getD k default = p at c0 c1 c2 hd
      have HD : Hid (balF l a u = balF (p :: l.drop (k + 1)) a u) := by unfold Hid; rw [HA.out, hd]
      clear hd
      obtain ⟨A, U, N⟩ := p
      simp only at c0 c1 c2
      by_cases h1 : A = a
      · by_cases h2 : U = u
        · have HX := Lib.hid (bal_here (p := (A, U, N)) (l := l.drop (k + 1)) h1 h2)
          have q1 : (A == a) = true := beq_iff_eq.2 h1
          have q2 : (U == u) = true := beq_iff_eq.2 h2
          clear h1 h2
          go_wp2
          go_ret2
          exact ⟨ret_tup2 (by rw [HR.out, HD.out, HX.out]) HE.out.symm, HG.out.alloc _ _⟩
        · have HX := Lib.hid (bal_next (p := (A, U, N)) (l := l.drop (k + 1)) (a := a) (u := u) (fun q => h2 q.2))
          have q1 : (A == a) = true := beq_iff_eq.2 h1
          have q2 : (U == u) = false := beq_eq_false_iff_ne.2 h2
          clear h1 h2
          go_wp2
          go_roundw
          case rel => exact ⟨k + 1, by omega, by go_num, by unfold Hid; rw [HD.out, HX.out], HG.out.alloc _ _⟩
          case measure => simp [intOf]; omega
      · have HX := Lib.hid (bal_next (p := (A, U, N)) (l := l.drop (k + 1)) (a := a) (u := u) (fun q => h1 q.1))
        have q1 : (A == a) = false := beq_eq_false_iff_ne.2 h1
        clear h1
        go_wp2
        go_roundw
        case rel => exact ⟨k + 1, by omega, by go_num, by unfold Hid; rw [HD.out, HX.out], HG.out.alloc _ _⟩
        case measure => simp [intOf]; omega
    · have hd : l.drop k = [] := List.drop_eq_nil_of_le (by omega)
      have HZ : Hid (balF l a u = 0) := by unfold Hid; rw [HA.out, hd]; rfl
      clear hd
      go_wp2
      go_ret2
      exact ⟨ret_tup2 (by rw [HR.out, HZ.out]) HE.out.symm, HG.out⟩

theorem balance_none (x : Option Addr) (cap : Nat) (hx : x = none → cap = 0) (a u : Int) (w : World) (hp : plB a u = true) : Calls Try.prog 11 #[.slice x 0 cap, .int .i64 a, .int .i64 u] w (BalIs [] a u w) := by
  have LB := Lib.hid (lines_none x cap w)
  have PB := Lib.hid (fun w => hp ▸ isPlace_any a u w)
  have he : balE [] a u = 0 := by unfold balE; rw [if_neg (by decide), hp]; rfl
  have HE := Lib.hid he
  have HR : Hid (balR [] a u = 0) := by unfold Hid balR; rw [he, if_pos rfl]; rfl
  clear he hp hx
  go_enter Try.func11, Try.ntmps11
  go_wp2_with (first
    | (go_at_call 21; (with_reducible refine LB.out.mono ?_); rintro e w1 ⟨rfl, g1⟩)
    | (go_at_call 31; (with_reducible refine (PB.out _).mono ?_); rintro e w2 ⟨rfl, rfl⟩))
  go_loop [22] (fun i => i = .int .i64 0) (fun _ => 0)
  case atStart => exact rfl
  case round =>
    obtain rfl := hrel
    go_wp2
    go_ret2
    exact ⟨ret_tup2 HR.out.symm HE.out.symm, g1⟩

theorem balance_any (v : Value) (l : List (Int × Int × Int)) (a u : Int) (w : World) (hl : ReadsP w v l) : Calls Try.prog 11 #[v, .int .i64 a, .int .i64 u] w (BalIs l a u w) := by
  by_cases h : linE l = 0
  · cases hp : plB a u with
    | false => exact balance_rng v l a u w hl h hp
    | true =>
      have hl0 := hl
      obtain ⟨x, c, e, hx, -⟩ := id hl
      rcases hl.cell with ⟨rfl, a', cap, rfl⟩ | ⟨_, b, off, cap, rfl, hc⟩
      · injection e with e1 e2 e3
        subst e1; subst e3
        exact balance_none _ _ hx a u w hp
      · exact balance_some b off cap l a u w hl0 hc h hp
  · exact balance_bad v l a u w hl h

end Go.Proofs.Ytcpfldlcocencaa
