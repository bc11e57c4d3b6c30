/-
  What SortStableFunc of package slices does with forty places or fewer, in a row of the call's own, whatever compares them by a key.
-/
import Derived.Test.YtmecggncedhehaaStabF0
namespace Go.Proofs.Ytmecggncedhehaa
open Go.RowKit Go.Lib
set_option linter.unusedVariables false



set_option maxRecDepth 100000 in
set_option maxHeartbeats 2000000 in
theorem stable_few (fn : Nat) (cb : Array Value) (cf : Int → Int → Int) (lx : Int → Int → Prop) (n blk cap : Nat) (w : World) (H : Cmps fn cb cf lx n blk w) (hn : n < 20) :
    Calls Try.prog 138 #[.slice (some ⟨blk, 0, none⟩) n cap, .int .i64 (n : Int), .func (.func fn) #[] cb] w fun e w' => e = .returned (.tuple #[]) ∧ Srt lx w blk n w' := by
  have hle := H.le
  have I := Lib.hid (H.all (cap := cap))
  have q1 : decide (20 ≤ n) = false := decide_eq_false (by omega)
  have q2 : decide (20 < n) = false := decide_eq_false (by omega)
  clear H
  go_enter Try.func138, Try.ntmps138
  go_wp2

  go_loop [7, 8] (fun a b => a = .int .i64 0 ∧ b = .int .i64 20) (fun _ _ => 0)
  case atStart => exact ⟨rfl, rfl⟩
  case round =>
    obtain ⟨rfl, rfl⟩ := hrel
    go_wp2_with (go_at_call 148; (with_reducible refine (I.out).mono ?_); rintro e w1 ⟨rfl, g1⟩; have GS := Lib.hid g1; clear g1)
    go_loop [6] (fun a => a = .int .i64 20) (fun _ => 0)
    case atStart => exact rfl
    case round =>
      obtain rfl := hrel
      go_wp2
      go_end0
      exact ⟨rfl, GS.out⟩

set_option maxRecDepth 100000 in
set_option maxHeartbeats 2000000 in
theorem stable_twenty (fn : Nat) (cb : Array Value) (cf : Int → Int → Int) (lx : Int → Int → Prop) (n blk cap : Nat) (w : World) (H : Cmps fn cb cf lx n blk w) (hn : n = 20) :
    Calls Try.prog 138 #[.slice (some ⟨blk, 0, none⟩) n cap, .int .i64 (n : Int), .func (.func fn) #[] cb] w fun e w' => e = .returned (.tuple #[]) ∧ Srt lx w blk n w' := by
  have hle := H.le
  have I := Lib.hid (H.low (cap := cap) (by omega))
  have I3 : Hid (∀ W, Srt lx w blk n W → Calls Try.prog 148 #[.slice (some ⟨blk, 0, none⟩) n cap, .int .i64 20, .int .i64 n, .func (.func fn) #[] cb] W fun e w' => e = .returned (.tuple #[]) ∧ Srt lx w blk n w') := fun W g => by
    obtain ⟨os, g1, g2, g3⟩ := g
    have h := H.empty (cap := cap) g1 g2 (z := (n : Int)) rfl
    rw [show (20 : Int) = (n : Int) by omega]
    refine h.mono ?_
    rintro e w' ⟨rfl, h1⟩
    exact ⟨rfl, os, h1, g2, g3⟩
  have HN := Lib.hid hn
  have q1 : (20 : Int) ≤ (n : Int) := by omega
  have q2 : ¬ (40 : Int) ≤ (n : Int) := by omega
  have q3 : ¬ (20 : Int) < (n : Int) := by omega
  clear H hn
  go_enter Try.func138, Try.ntmps138
  go_wp2

  go_loopw [7, 8] (fun a b wr => (a = .int .i64 0 ∧ b = .int .i64 20 ∧ wr = w) ∨ (a = .int .i64 20 ∧ b = .int .i64 40 ∧ Hid (Srt lx w blk n wr))) (fun _ b _ => 100 - (intOf b).toNat)
  case atStart => exact .inl ⟨rfl, rfl, rfl⟩
  case round =>
    rcases hrel with ⟨rfl, rfl, rfl⟩ | ⟨rfl, rfl, G⟩
    · go_wp2_with (go_at_call 148; (with_reducible refine (I.out).mono ?_); rintro e w1 ⟨rfl, g1⟩; have G1 := Lib.hid g1; clear g1)
      go_roundw
      case rel => exact .inr ⟨rfl, rfl, G1.out.perm HN.out.symm⟩
      case measure => simp [intOf]
    · go_wp2_with (go_at_call 148; (with_reducible refine (I3.out _ G.out).mono ?_); rintro e w2 ⟨rfl, g1⟩; have G2 := Lib.hid g1; clear g1)
      go_loop [6] (fun a => a = .int .i64 20) (fun _ => 0)
      case atStart => exact rfl
      case round =>
        obtain rfl := hrel
        go_wp2
        go_end0
        exact ⟨rfl, G2.out⟩

set_option maxRecDepth 100000 in
set_option maxHeartbeats 2000000 in
theorem stable_more (fn : Nat) (cb : Array Value) (cf : Int → Int → Int) (lx : Int → Int → Prop) (n blk cap : Nat) (w : World) (H : Cmps fn cb cf lx n blk w) (hn : 20 < n ∧ n < 40) :
    Calls Try.prog 138 #[.slice (some ⟨blk, 0, none⟩) n cap, .int .i64 (n : Int), .func (.func fn) #[] cb] w fun e w' => e = .returned (.tuple #[]) ∧ Srt lx w blk n w' := by
  have hle := H.le
  have I := Lib.hid (H.low (cap := cap) (by omega))
  have I2 : Hid (∀ W, Half lx w blk n W → Calls Try.prog 148 #[.slice (some ⟨blk, 0, none⟩) n cap, .int .i64 20, .int .i64 n, .func (.func fn) #[] cb] W fun e w' => e = .returned (.tuple #[]) ∧ Both lx w blk n w') := fun W g => H.high (by omega) g
  have I3 : Hid (∀ W, Both lx w blk n W → Calls Try.prog 149 #[.slice (some ⟨blk, 0, none⟩) n cap, .int .i64 0, .int .i64 20, .int .i64 n, .func (.func fn) #[] cb] W fun e w' => e = .returned (.tuple #[]) ∧ Srt lx w blk n w') := fun W g => H.merge (by omega) g rfl
  have q1 : (20 : Int) ≤ (n : Int) := by omega
  have q2 : ¬ (40 : Int) ≤ (n : Int) := by omega
  have q3 : (20 : Int) < (n : Int) := by omega
  have q4 : ¬ (40 : Int) < (n : Int) := by omega
  clear H hn
  go_enter Try.func138, Try.ntmps138
  go_wp2

  go_loopw [7, 8] (fun a b wr => (a = .int .i64 0 ∧ b = .int .i64 20 ∧ wr = w) ∨ (a = .int .i64 20 ∧ b = .int .i64 40 ∧ Hid (Half lx w blk n wr))) (fun _ b _ => 100 - (intOf b).toNat)
  case atStart => exact .inl ⟨rfl, rfl, rfl⟩
  case round =>
    rcases hrel with ⟨rfl, rfl, rfl⟩ | ⟨rfl, rfl, G⟩
    · go_wp2_with (go_at_call 148; (with_reducible refine (I.out).mono ?_); rintro e w1 ⟨rfl, g1⟩; have G1 := Lib.hid g1; clear g1)
      go_roundw
      case rel => exact .inr ⟨rfl, rfl, G1.out⟩
      case measure => simp [intOf]
    · go_wp2_with (go_at_call 148; (with_reducible refine (I2.out _ G.out).mono ?_); rintro e w2 ⟨rfl, g1⟩; have G2 := Lib.hid g1; clear g1)
      go_loopw [6] (fun s wr => (s = .int .i64 20 ∧ Hid (Both lx w blk n wr)) ∨ (s = .int .i64 40 ∧ Hid (Srt lx w blk n wr))) (fun s _ => 100 - (intOf s).toNat)
      case atStart => exact .inl ⟨rfl, G2.out⟩
      case round =>
        rcases hrel with ⟨rfl, G3⟩ | ⟨rfl, G3⟩
        · go_wp2
          go_loop [7, 8] (fun a b => a = .int .i64 0 ∧ b = .int .i64 40) (fun _ _ => 0)
          case atStart => exact ⟨rfl, rfl⟩
          case round =>
            obtain ⟨rfl, rfl⟩ := hrel
            go_wp2_with (go_at_call 149; (with_reducible refine (I3.out _ G3.out).mono ?_); rintro e w3 ⟨rfl, g1⟩; have G4 := Lib.hid g1; clear g1)
            case roundEnd => exact ⟨.inr ⟨rfl, G4.out⟩, by simp [intOf]⟩
        · go_wp2
          go_end0
          exact ⟨rfl, G3.out⟩

set_option maxRecDepth 100000 in
set_option maxHeartbeats 2000000 in
theorem stable_forty (fn : Nat) (cb : Array Value) (cf : Int → Int → Int) (lx : Int → Int → Prop) (n blk cap : Nat) (w : World) (H : Cmps fn cb cf lx n blk w) (hn : n = 40) :
    Calls Try.prog 138 #[.slice (some ⟨blk, 0, none⟩) n cap, .int .i64 (n : Int), .func (.func fn) #[] cb] w fun e w' => e = .returned (.tuple #[]) ∧ Srt lx w blk n w' := by
  have hle := H.le
  have I := Lib.hid (H.low (cap := cap) (by omega))
  have I2 : Hid (∀ W, Half lx w blk n W → Calls Try.prog 148 #[.slice (some ⟨blk, 0, none⟩) n cap, .int .i64 20, .int .i64 40, .func (.func fn) #[] cb] W fun e w' => e = .returned (.tuple #[]) ∧ Both lx w blk n w') := fun W g => by
    have h := H.high (cap := cap) (by omega) g
    rwa [show (n : Int) = 40 by omega] at h
  have I3 : Hid (∀ W, Both lx w blk n W → Calls Try.prog 149 #[.slice (some ⟨blk, 0, none⟩) n cap, .int .i64 0, .int .i64 20, .int .i64 40, .func (.func fn) #[] cb] W fun e w' => e = .returned (.tuple #[]) ∧ Srt lx w blk n w') := fun W g => H.merge (by omega) g (by omega)
  have I4 : Hid (∀ W, Both lx w blk n W → Calls Try.prog 148 #[.slice (some ⟨blk, 0, none⟩) n cap, .int .i64 40, .int .i64 n, .func (.func fn) #[] cb] W fun e w' => e = .returned (.tuple #[]) ∧ Both lx w blk n w') := fun W g => by
    obtain ⟨M1, M2, g1, g2, g3, g4, g5⟩ := g
    have h := H.empty (cap := cap) g1 (both_perm g2 g4) (z := (n : Int)) rfl
    rw [show (40 : Int) = (n : Int) by omega]
    refine h.mono ?_
    rintro e w' ⟨rfl, h1⟩
    exact ⟨rfl, M1, M2, h1, g2, g3, g4, g5⟩
  have q1 : (20 : Int) ≤ (n : Int) := by omega
  have q2 : (40 : Int) ≤ (n : Int) := by omega
  have q3 : (20 : Int) < (n : Int) := by omega
  have q4 : ¬ (60 : Int) ≤ (n : Int) := by omega
  have q5 : ¬ (80 : Int) ≤ (n : Int) := by omega
  have q6 : ¬ (60 : Int) < (n : Int) := by omega
  have q7 : ¬ (40 : Int) < (n : Int) := by omega
  clear H hn
  go_enter Try.func138, Try.ntmps138
  go_wp2

  go_loopw [7, 8] (fun a b wr => (a = .int .i64 0 ∧ b = .int .i64 20 ∧ wr = w) ∨ (a = .int .i64 20 ∧ b = .int .i64 40 ∧ Hid (Half lx w blk n wr)) ∨ (a = .int .i64 40 ∧ b = .int .i64 60 ∧ Hid (Both lx w blk n wr))) (fun _ b _ => 100 - (intOf b).toNat)
  case atStart => exact .inl ⟨rfl, rfl, rfl⟩
  case round =>
    rcases hrel with ⟨rfl, rfl, rfl⟩ | ⟨rfl, rfl, G⟩ | ⟨rfl, rfl, G⟩
    · go_wp2_with (go_at_call 148; (with_reducible refine (I.out).mono ?_); rintro e w1 ⟨rfl, g1⟩; have G1 := Lib.hid g1; clear g1)
      go_roundw
      case rel => exact .inr (.inl ⟨rfl, rfl, G1.out⟩)
      case measure => simp [intOf]
    · go_wp2_with (go_at_call 148; (with_reducible refine (I2.out _ G.out).mono ?_); rintro e w2 ⟨rfl, g1⟩; have G2 := Lib.hid g1; clear g1)
      go_roundw
      case rel => exact .inr (.inr ⟨rfl, rfl, G2.out⟩)
      case measure => simp [intOf]
    · go_wp2_with (go_at_call 148; (with_reducible refine (I4.out _ G.out).mono ?_); rintro e w3 ⟨rfl, g1⟩; have G3 := Lib.hid g1; clear g1)
      go_loopw [6] (fun s wr => (s = .int .i64 20 ∧ Hid (Both lx w blk n wr)) ∨ (s = .int .i64 40 ∧ Hid (Srt lx w blk n wr))) (fun s _ => 100 - (intOf s).toNat)
      case atStart => exact .inl ⟨rfl, G3.out⟩
      case round =>
        rcases hrel with ⟨rfl, G4⟩ | ⟨rfl, G4⟩
        · go_wp2
          go_loopw [7, 8] (fun a b wr => (a = .int .i64 0 ∧ b = .int .i64 40 ∧ Hid (Both lx w blk n wr)) ∨ (a = .int .i64 40 ∧ b = .int .i64 80 ∧ Hid (Srt lx w blk n wr))) (fun _ b _ => 100 - (intOf b).toNat)
          case atStart => exact .inl ⟨rfl, rfl, G4.out⟩
          case round =>
            rcases hrel with ⟨rfl, rfl, G5⟩ | ⟨rfl, rfl, G5⟩
            · go_wp2_with (go_at_call 149; (with_reducible refine (I3.out _ G5.out).mono ?_); rintro e w4 ⟨rfl, g1⟩; have G6 := Lib.hid g1; clear g1)
              go_roundw
              case rel => exact .inr ⟨rfl, rfl, G6.out⟩
              case measure => simp [intOf]
            · go_wp2
              case roundEnd => exact ⟨.inr ⟨rfl, G5.out⟩, by simp [intOf]⟩
        · go_wp2
          go_end0
          exact ⟨rfl, G4.out⟩

theorem stable_any (fn : Nat) (cb : Array Value) (cf : Int → Int → Int) (lx : Int → Int → Prop) (n blk cap : Nat) (w : World) (H : Cmps fn cb cf lx n blk w) :
    Calls Try.prog 138 #[.slice (some ⟨blk, 0, none⟩) n cap, .int .i64 (n : Int), .func (.func fn) #[] cb] w fun e w' => e = .returned (.tuple #[]) ∧ Srt lx w blk n w' := by
  have hle := H.le
  by_cases h1 : n < 20
  · exact stable_few fn cb cf lx n blk cap w H h1
  · by_cases h2 : n = 20
    · exact stable_twenty fn cb cf lx n blk cap w H h2
    · by_cases h3 : n < 40
      · exact stable_more fn cb cf lx n blk cap w H ⟨by omega, h3⟩
      · exact stable_forty fn cb cf lx n blk cap w H (by omega)
set_option maxRecDepth 100000 in
set_option maxHeartbeats 1000000 in
theorem sortStable_any (fn : Nat) (cb : Array Value) (cf : Int → Int → Int) (lx : Int → Int → Prop) (n blk cap : Nat) (w : World) (H : Cmps fn cb cf lx n blk w) :
    Calls Try.prog 117 #[.slice (some ⟨blk, 0, none⟩) n cap, .func (.func fn) #[] cb] w fun e w' => e = .returned (.tuple #[]) ∧ Srt lx w blk n w' := by
  have HI := Lib.hid (stable_any fn cb cf lx n blk cap w H)
  have hm := H.le
  clear H
  go_enter Try.func117, Try.ntmps117
  go_wp2_with (go_at_call 138; (with_reducible refine HI.out.mono ?_); rintro e w1 hs; obtain ⟨rfl, hs2⟩ := hs; have HS := Lib.hid hs2; clear hs2)
  go_end0
  exact ⟨rfl, HS.out⟩

end Go.Proofs.Ytmecggncedhehaa
