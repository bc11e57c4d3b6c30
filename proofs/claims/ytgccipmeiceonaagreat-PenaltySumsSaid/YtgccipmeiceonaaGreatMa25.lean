/-
  Merged: BookP, BookQ, BookR.
-/
import Derived.Test.YtgccipmeiceonaaGreatMa24
import Derived.Test.YtgccipmeiceonaaGreatMa13
-- BookP
namespace Go.Proofs.YtgccipmeiceonaaGreat
open Go.RowKit
set_option linter.unusedVariables false

theorem post_ext3 {p q : Int × Int × Int} (h1 : p.1 = q.1) (h2 : p.2.1 = q.2.1) (h3 : p.2.2 = q.2.2) : p = q := by
  obtain ⟨a, b, c⟩ := p; obtain ⟨d, e, f⟩ := q; simp_all
/-- the line of a place in a strict list is all that the place has -/
theorem sumAt_mem {b : Int} {R : List (Int × Int × Int)} (h : Strict b R) {p : Int × Int × Int} (hp : p ∈ R) : sumAt R p.1 p.2.1 = p.2.2 := by
  induction R generalizing b with
  | nil => simp at hp
  | cons q l ih =>
    unfold sumAt
    rcases List.mem_cons.1 hp with rfl | hp
    · rw [if_pos ⟨rfl, rfl⟩]
      have : sumAt l p.1 p.2.1 = 0 := sumAt_none fun r hr e => by
        have := strict_lo h.2.2 r hr
        unfold plc at this
        rw [e.1, e.2] at this
        omega
      omega
    · rw [ih h.2.2 hp, if_neg, Int.zero_add]
      intro e
      have := strict_lo h.2.2 p hp
      unfold plc at this
      rw [← e.1, ← e.2] at this
      omega
/-- a list is a book of postings: what is to be looked at -/
theorem isBook_mk {R T : List (Int × Int × Int)} (hs : Strict (-1) R) (h1 : ∀ p ∈ R, p.2.2 = sumAt T p.1 p.2.1) (h2 : ∀ q ∈ T, sumAt T q.1 q.2.1 ≠ 0 → ∃ r ∈ R, r.1 = q.1 ∧ r.2.1 = q.2.1) : IsBook R T := by
  refine ⟨hs, fun p => ⟨fun hp => ⟨strict_pt hs p hp, h1 p hp⟩, fun ⟨hb, hp⟩ => ?_⟩⟩
  have hz := (pt_t hb).2.2.2.2.1
  have : ∃ q ∈ T, q.1 = p.1 ∧ q.2.1 = p.2.1 := Classical.byContradiction fun hn => by
    have := sumAt_none (l := T) (a := p.1) (u := p.2.1) fun q hq e => hn ⟨q, hq, e⟩
    omega
  obtain ⟨q, hq, e1, e2⟩ := this
  obtain ⟨r, hr, f1, f2⟩ := h2 q hq (by rw [e1, e2]; omega)
  have := h1 r hr
  rw [f1, f2, e1, e2] at this
  have e : r = p := post_ext3 (f1.trans e1) (f2.trans e2) (by omega)
  exact e ▸ hr
theorem isBook_self {b : List (Int × Int × Int)} (h : Strict (-1) b) : IsBook b b :=
  isBook_mk h (fun p hp => (sumAt_mem h hp).symm) fun q hq _ => ⟨q, hq, rfl, rfl⟩
theorem isBook_congr {R T T' : List (Int × Int × Int)} (h : IsBook R T) (e : ∀ a u, sumAt T a u = sumAt T' a u) : IsBook R T' := ⟨h.strict, fun p => by rw [h.mem, e]⟩
/-- each place has in a book what was posted to it -/
theorem sumAt_book {R T : List (Int × Int × Int)} (h : IsBook R T) (hT : ∀ p ∈ T, ptB p = true) (ha : ∀ a u, amtB (sumAt T a u) = true) (a u : Int) : sumAt R a u = sumAt T a u := by
  by_cases hz : sumAt T a u = 0
  · rw [hz]
    refine sumAt_none fun q hq e => ?_
    have := (h.mem q).1 hq
    rw [e.1, e.2, hz] at this
    exact (pt_t this.1).2.2.2.2.1 this.2
  · have hq : ∃ q ∈ T, q.1 = a ∧ q.2.1 = u := Classical.byContradiction fun hn => hz (sumAt_none fun q hq e => hn ⟨q, hq, e⟩)
    obtain ⟨q, hq, rfl, rfl⟩ := hq
    have hb := pt_t (hT q hq)
    have hm : (q.1, q.2.1, sumAt T q.1 q.2.1) ∈ R := (h.mem _).2 ⟨pt_mk ⟨hb.1, hb.2.1, hb.2.2.1, hb.2.2.2.1, hz, amt_t (ha _ _)⟩, rfl⟩
    exact sumAt_mem h.strict hm

/-- the amounts of a unit, account by account -/
def accS (T : List (Int × Int × Int)) (u : Nat) : Nat → Int
  | 0 => 0
  | n + 1 => accS T u n + sumAt T (n : Int) (u : Int)
theorem accS_cons (p : Int × Int × Int) (T : List (Int × Int × Int)) (u n : Nat) : accS (p :: T) u n = (if p.2.1 = (u : Int) ∧ 0 ≤ p.1 ∧ p.1 < (n : Int) then p.2.2 else 0) + accS T u n := by
  induction n with
  | zero => simp only [accS]; rw [if_neg (by omega)]; omega
  | succ n ih =>
    simp only [accS, ih, sumAt]
    by_cases h1 : p.1 = (n : Int) ∧ p.2.1 = (u : Int)
    · rw [if_pos h1, if_neg (by omega), if_pos (by omega)]; omega
    · rw [if_neg h1]
      by_cases h2 : p.2.1 = (u : Int) ∧ 0 ≤ p.1 ∧ p.1 < (n : Int)
      · rw [if_pos h2, if_pos (by omega)]; omega
      · rw [if_neg h2, if_neg (by omega)]; omega
theorem accS_unit {T : List (Int × Int × Int)} (h : ∀ p ∈ T, ptB p = true) (u : Nat) : accS T u 101 = unitS T u := by
  induction T with
  | nil =>
    have : ∀ n, accS [] u n = 0 := fun n => by induction n with
      | zero => rfl
      | succ n ih => simp [accS, ih, sumAt]
    rw [this]; rfl
  | cons p l ih =>
    have hb := pt_t (h p (by simp))
    rw [accS_cons, ih fun q hq => h q (by simp [hq]), unitS]
    by_cases e : p.2.1 = (u : Int)
    · rw [if_pos (by omega), if_pos e]
    · rw [if_neg (by omega), if_neg e]
theorem accS_congr {S T : List (Int × Int × Int)} (h : ∀ a u, sumAt S a u = sumAt T a u) (u n : Nat) : accS S u n = accS T u n := by
  induction n with
  | zero => rfl
  | succ n ih => simp only [accS, ih, h]
theorem unitS_congr {S T : List (Int × Int × Int)} (hS : ∀ p ∈ S, ptB p = true) (hT : ∀ p ∈ T, ptB p = true) (h : ∀ a u, sumAt S a u = sumAt T a u) (u : Nat) : unitS S u = unitS T u := by
  rw [← accS_unit hS, ← accS_unit hT, accS_congr h]
theorem evn_append {S T : List (Int × Int × Int)} (hS : evnB S = true) (hT : evnB T = true) : evnB (S ++ T) = true := evn_mk fun u hu => by
  rw [unitS_append, evn_t hS u hu, evn_t hT u hu]; rfl

/-- all that is known behind a post that went -/
structure Posted (b l R : List (Int × Int × Int)) : Prop where
  lin : linE b = 0
  chk : chkE l = 0
  amt : ∀ a u, amtB (sumAt (b ++ l) a u) = true
  book : IsBook R (b ++ l)
  few : R.length ≤ 400
theorem pts_both {b l : List (Int × Int × Int)} (h0 : linE b = 0) (h1 : chkE l = 0) : ∀ p ∈ b ++ l, ptB p = true := fun p hp => by
  rcases List.mem_append.1 hp with h | h
  · exact strict_pt (lin_0 h0).2.1 p h
  · exact (chk_0 h1).2.2.1 p h
theorem Posted.sum {b l R : List (Int × Int × Int)} (h : Posted b l R) (a u : Int) : sumAt R a u = sumAt b a u + sumAt l a u := by
  rw [sumAt_book h.book (pts_both h.lin h.chk) h.amt, sumAt_append]
theorem Posted.lines {b l R : List (Int × Int × Int)} (h : Posted b l R) : linE R = 0 := by
  refine lin_mk h.few h.book.strict (evn_mk fun u hu => ?_)
  rw [unitS_congr (strict_pt h.book.strict) (pts_both h.lin h.chk) (sumAt_book h.book (pts_both h.lin h.chk) h.amt)]
  exact evn_t (evn_append (lin_0 h.lin).2.2 (chk_0 h.chk).2.2.2) u hu
/-- what an answer of Post can be -/
theorem post_cases {b l R : List (Int × Int × Int)} {E : Int} (h : PostRes b l R E) : (E ≠ 0 ∧ R = []) ∨ (E = 0 ∧ Posted b l R) := by
  rcases h with ⟨h1, h2, h3⟩ | ⟨h0, h1, h2, h3⟩ | ⟨h0, h1, h2⟩
  · exact .inl ⟨by omega, h3⟩
  · exact .inl ⟨by omega, h3⟩
  · rcases h2 with ⟨h2, h3, _⟩ | ⟨ha, L, hB, ⟨_, h3, h4⟩ | ⟨h5, h3, rfl⟩⟩
    · exact .inl ⟨by omega, h3⟩
    · exact .inl ⟨by omega, h4⟩
    · exact .inr ⟨h3, h0, h1, ha, hB, h5⟩
/-- a post of which the book is known -/
theorem post_known {b l R R' : List (Int × Int × Int)} {E : Int} (h : PostRes b l R E) (k : Posted b l R') : E = 0 ∧ R = R' := by
  rcases h with ⟨h1, _⟩ | ⟨_, h1, _⟩ | ⟨_, _, h2⟩
  · exact absurd k.lin h1
  · exact absurd k.chk h1
  · rcases h2 with ⟨_, _, a, u, h3⟩ | ⟨ha, L, hB, h3⟩
    · rw [k.amt a u] at h3; cases h3
    · have e : L = R' := book_ext hB k.book fun _ _ => rfl
      have := k.few
      rcases h3 with ⟨h5, _⟩ | ⟨_, h4, h5⟩
      · rw [e] at h5; omega
      · exact ⟨h4, h5.trans e⟩
/-- a post that can only fail by size -/
theorem post_size {b l R : List (Int × Int × Int)} {E : Int} (h : PostRes b l R E) (h0 : linE b = 0) (h1 : chkE l = 0) : (E = 8 ∧ R = []) ∨ (E = 2 ∧ R = []) ∨ (E = 0 ∧ Posted b l R) := by
  rcases h with ⟨h2, _⟩ | ⟨_, h2, _⟩ | ⟨_, _, h2⟩
  · exact absurd h0 h2
  · exact absurd h1 h2
  · rcases h2 with ⟨h2, h3, _⟩ | ⟨ha, L, hB, ⟨_, h3, h4⟩ | ⟨h5, h3, rfl⟩⟩
    · exact .inl ⟨h2, h3⟩
    · exact .inr (.inl ⟨h3, h4⟩)
    · exact .inr (.inr ⟨h3, h0, h1, ha, hB, h5⟩)

/-- turned back -/
theorem neg_pt {p : Int × Int × Int} (h : ptB p = true) : ptB (negP p) = true := by
  have := pt_t h
  exact pt_mk ⟨this.1, this.2.1, this.2.2.1, this.2.2.2.1, by unfold negP; simp; omega, by unfold negP; simp; omega, by unfold negP; simp; omega⟩
theorem turn_pt {l : List (Int × Int × Int)} (h : ∀ p ∈ l, ptB p = true) : ∀ p ∈ turnP l, ptB p = true := fun p hp => by
  unfold turnP at hp
  obtain ⟨q, hq, rfl⟩ := List.mem_map.1 hp
  exact neg_pt (h q (List.mem_reverse.1 hq))
theorem sumAt_neg (l : List (Int × Int × Int)) (a u : Int) : sumAt (l.map negP) a u = -sumAt l a u := by
  induction l with
  | nil => rfl
  | cons p l ih =>
    rw [List.map_cons, sumAt, sumAt, ih]
    unfold negP
    simp only
    split <;> omega
theorem sumAt_turn (l : List (Int × Int × Int)) (a u : Int) : sumAt (turnP l) a u = -sumAt l a u := by
  unfold turnP
  rw [sumAt_neg, sumAt_perm (List.reverse_perm l)]
theorem turn_turn (l : List (Int × Int × Int)) : turnP (turnP l) = l := by
  unfold turnP
  rw [← List.map_reverse, List.reverse_reverse, List.map_map]
  have : negP ∘ negP = id := by funext p; simp [negP]
  rw [this, List.map_id]
theorem turn_len (l : List (Int × Int × Int)) : (turnP l).length = l.length := by simp [turnP]
theorem turn_chk {l : List (Int × Int × Int)} (h : chkE l = 0) : chkE (turnP l) = 0 := by
  obtain ⟨h0, h1, h2, h3⟩ := chk_0 h
  refine chk_mk (by rw [turn_len]; exact h0) (by rw [turn_len]; exact h1) (turn_pt h2) (evn_mk fun u hu => ?_)
  have e : ∀ a u, sumAt (turnP l ++ l) a u = sumAt [] a u := fun a u => by rw [sumAt_append, sumAt_turn]; simp only [sumAt]; omega
  have := unitS_congr (S := turnP l ++ l) (T := []) (fun p hp => by
    rcases List.mem_append.1 hp with h | h
    · exact turn_pt h2 p h
    · exact h2 p h) (by simp) e u
  rw [unitS_append, evn_t h3 u hu] at this
  simpa [unitS] using this
theorem Posted.back {b l R : List (Int × Int × Int)} (h : Posted b l R) : Posted R (turnP l) b := by
  have e : ∀ a u, sumAt (R ++ turnP l) a u = sumAt b a u := fun a u => by rw [sumAt_append, sumAt_turn, h.sum]; omega
  have hs := (lin_0 h.lin).2.1
  refine ⟨h.lines, turn_chk h.chk, fun a u => ?_, isBook_congr (isBook_self hs) fun a u => (e a u).symm, (lin_0 h.lin).1⟩
  rw [e]
  by_cases hq : ∃ q ∈ b, q.1 = a ∧ q.2.1 = u
  · obtain ⟨q, hq, rfl, rfl⟩ := hq
    rw [sumAt_mem hs hq]
    exact amt_mk (pt_t (strict_pt hs q hq)).2.2.2.2.2.1 (pt_t (strict_pt hs q hq)).2.2.2.2.2.2
  · rw [sumAt_none fun q hq' e => hq ⟨q, hq', e⟩]; decide
/-- in whichever order -/
theorem Posted.order {b l m x y p q : List (Int × Int × Int)} (hx : Posted b l x) (hy : Posted b m y) (hp : Posted x m p) (hq : Posted y l q) : p = q :=
  book_ext hp.book hq.book fun a u => by rw [sumAt_append, sumAt_append, hx.sum, hy.sum]; omega
/-- at once -/
theorem Posted.both {b l m x y : List (Int × Int × Int)} (hx : Posted b l x) (hy : Posted x m y) (hn : l.length + m.length ≤ 60) : Posted b (l ++ m) y := by
  obtain ⟨l0, l1, l2, l3⟩ := chk_0 hx.chk
  obtain ⟨m0, m1, m2, m3⟩ := chk_0 hy.chk
  have e : ∀ a u, sumAt (x ++ m) a u = sumAt (b ++ (l ++ m)) a u := fun a u => by rw [sumAt_append, sumAt_append, sumAt_append, hx.sum]; omega
  refine ⟨hx.lin, chk_mk (by simp; omega) (by simpa using hn) (fun p hp => ?_) (evn_append l3 m3), fun a u => ?_, isBook_congr hy.book e, hy.few⟩
  · rcases List.mem_append.1 hp with h | h
    · exact l2 p h
    · exact m2 p h
  · rw [← e]; exact hy.amt a u

/-- sums of few amounts are amounts -/
def absS (T : List (Int × Int × Int)) : Int := (T.map fun p => (p.2.2.natAbs : Int)).sum
theorem sumAt_abs (T : List (Int × Int × Int)) (a u : Int) : -(absS T) ≤ sumAt T a u ∧ sumAt T a u ≤ absS T := by
  induction T with
  | nil => exact ⟨Int.le_refl _, Int.le_refl _⟩
  | cons p l ih =>
    unfold absS at *
    simp only [List.map_cons, List.sum_cons, sumAt]
    split <;> omega
theorem posted_mk {b l R : List (Int × Int × Int)} (h0 : linE b = 0) (h1 : chkE l = 0) (ha : absS (b ++ l) ≤ 1000) (hs : ordE (-1) R = 0) (hn : R.length ≤ 400) (hm : ∀ p ∈ R, p.2.2 = sumAt (b ++ l) p.1 p.2.1) (hk : ∀ q ∈ b ++ l, sumAt (b ++ l) q.1 q.2.1 ≠ 0 → ∃ r ∈ R, r.1 = q.1 ∧ r.2.1 = q.2.1) : Posted b l R :=
  ⟨h0, h1, fun a u => by have := sumAt_abs (b ++ l) a u; exact amt_mk (by omega) (by omega), isBook_mk (ord_0.1 hs) hm hk, hn⟩

/-- the numbers of bookBegun -/
def L0 : List (Int × Int × Int) := [(2, 0, 5), (1, 0, -8), (3, 0, 3)]
def B0 : List (Int × Int × Int) := [(1, 0, -8), (2, 0, 5), (3, 0, 3)]
def T0 : List (Int × Int × Int) := [(3, 0, -3), (1, 0, 8), (2, 0, -5)]
theorem turn_L0 : turnP L0 = T0 := by decide
theorem chk_L0 : chkE L0 = 0 := by decide
theorem posted_0 : Posted [] L0 B0 := posted_mk (by decide) (by decide) (by decide) (by decide) (by decide) (by decide) (by decide)
theorem posted_1 : Posted B0 T0 [] := by have := posted_0.back; rwa [turn_L0] at this
theorem res_2 {R : List (Int × Int × Int)} {E : Int} (h : PostRes B0 (L0.take 2) R E) : E = 4 ∧ R = [] := by
  rcases h with ⟨h1, _⟩ | ⟨_, _, h2, h3⟩ | ⟨_, h1, _⟩
  · exact absurd (by decide) h1
  · rw [h2]; exact ⟨by decide, h3⟩
  · exact absurd h1 (by decide)

end Go.Proofs.YtgccipmeiceonaaGreat

-- BookQ
namespace Go.Proofs.YtgccipmeiceonaaGreat
open Go.RowKit
set_option linter.unusedVariables false

theorem lit3 (w : World) (T : TypeId) (p q r : Int × Int × Int) (h : InP [p, q, r]) : ReadsP (w.alloc (.cells #[.int .i64 p.1, .int .i64 p.2.1, .int .i64 p.2.2, .int .i64 q.1, .int .i64 q.2.1, .int .i64 q.2.2, .int .i64 r.1, .int .i64 r.2.1, .int .i64 r.2.2] T)) (.slice (some ⟨w.heap.size, 0, none⟩) 3 3) [p, q, r] := by
  refine ⟨_, 3, rfl, (fun e => by cases e), by unfold maxLen; simp, h, fun j hj => ⟨w.heap.size, 0, rfl, ?_⟩⟩
  have B := Blk.made w #[.int .i64 p.1, .int .i64 p.2.1, .int .i64 p.2.2, .int .i64 q.1, .int .i64 q.2.1, .int .i64 q.2.2, .int .i64 r.1, .int .i64 r.2.1, .int .i64 r.2.2] T
  rcases (show j = 0 ∨ j = 1 ∨ j = 2 by simp at hj; omega) with rfl | rfl | rfl
  · exact ⟨B.cell 0, B.cell 1, B.cell 2⟩
  · exact ⟨B.cell 3, B.cell 4, B.cell 5⟩
  · exact ⟨B.cell 6, B.cell 7, B.cell 8⟩
/-- a post that goes, of which the book is known -/
theorem post_goes (v u : Value) (b l R : List (Int × Int × Int)) (w : World) (hb : ReadsP w v b) (hl : ReadsP w u l) (k : Posted b l R) :
    Calls Tryz.prog 29 #[v, u] w fun e w' => ∃ a cap, e = .returned (.tuple #[.slice a R.length cap, .int .i64 0]) ∧ Hid (ReadsP w' (.slice a R.length cap) R) ∧ Hid (Kpt w w') := by
  refine (post_any v u b l w hb hl).mono ?_
  rintro e w' ⟨hk, R', E, v', hr, ho, rfl⟩
  obtain ⟨rfl, rfl⟩ := post_known hr k
  obtain ⟨a, cap, rfl⟩ := ho.form
  exact ⟨a, cap, rfl, ho.reads (inP_of (strict_pt k.book.strict)), hk⟩
theorem turn_goes (v : Value) (l : List (Int × Int × Int)) (w : World) (hl : ReadsP w v l) (h : chkE l = 0) :
    Calls Tryz.prog 31 #[v] w fun e w' => ∃ a cap, e = .returned (.tuple #[.slice a l.length cap, .int .i64 0]) ∧ Hid (ReadsP w' (.slice a l.length cap) (turnP l)) ∧ Hid (Kpt w w') := by
  refine (turn_any v l w hl).mono ?_
  rintro e w' ⟨hk, ⟨h1, _⟩ | ⟨_, a, cap, ho, rfl⟩⟩
  · exact absurd h h1
  · exact ⟨a, cap, rfl, ho.reads (inP_of (turn_pt (chk_0 h).2.2.1)), hk⟩

theorem bb_post1 (w : World) (T : TypeId) : Calls Tryz.prog 29 #[.slice none 0 0, .slice (some ⟨w.heap.size, 0, none⟩) 3 3] (w.alloc (.cells #[.int .i64 2, .int .i64 0, .int .i64 5, .int .i64 1, .int .i64 0, .int .i64 (-8), .int .i64 3, .int .i64 0, .int .i64 3] T)) fun e w' => ∃ a cap, e = .returned (.tuple #[.slice a 3 cap, .int .i64 0]) ∧ Hid (ReadsP w' (.slice a 3 cap) B0) ∧ Hid (ReadsP w' (.slice (some ⟨w.heap.size, 0, none⟩) 3 3) L0) ∧ Hid (Kpt w w') := by
  have hL : ReadsP (w.alloc (.cells #[.int .i64 2, .int .i64 0, .int .i64 5, .int .i64 1, .int .i64 0, .int .i64 (-8), .int .i64 3, .int .i64 0, .int .i64 3] T)) (.slice (some ⟨w.heap.size, 0, none⟩) 3 3) L0 := lit3 w T (2, 0, 5) (1, 0, -8) (3, 0, 3) (inP_of (by decide))
  refine (post_goes _ _ [] L0 B0 _ (readsP_nil _ none 0 fun _ => rfl) hL posted_0).mono ?_
  rintro e w' ⟨a, cap, rfl, h1, h2⟩
  exact ⟨a, cap, rfl, h1, hL.kpt h2.out, ktr ((Kpt.refl w).alloc _) h2.out⟩
theorem bb_bal (v : Value) (w : World) (h : ReadsP w v B0) : Calls Tryz.prog 30 #[v, .int .i64 1, .int .i64 0] w fun e w' => e = .returned (.tuple #[.int .i64 (-8), .int .i64 0]) ∧ Hid (Kpt w w') := by
  refine (balance_any v B0 1 0 w h).mono ?_
  rintro e w' ⟨rfl, g⟩
  exact ⟨by rw [show balR B0 1 0 = -8 by decide, show balE B0 1 0 = 0 by decide], g.kpt⟩
theorem bb_turn (v : Value) (w : World) (h : ReadsP w v L0) : Calls Tryz.prog 31 #[v] w fun e w' => ∃ a cap, e = .returned (.tuple #[.slice a 3 cap, .int .i64 0]) ∧ Hid (ReadsP w' (.slice a 3 cap) T0) ∧ Hid (Kpt w w') := by
  refine (turn_goes v L0 w h chk_L0).mono ?_
  rintro e w' ⟨a, cap, rfl, h1, h2⟩
  exact ⟨a, cap, rfl, by rw [← turn_L0]; exact h1.out, h2⟩
theorem bb_post2 (v u : Value) (w : World) (h : ReadsP w v B0) (h' : ReadsP w u T0) : Calls Tryz.prog 29 #[v, u] w fun e w' => ∃ a cap, e = .returned (.tuple #[.slice a 0 cap, .int .i64 0]) ∧ Hid (Kpt w w') := by
  refine (post_goes v u B0 T0 [] w h h' posted_1).mono ?_
  rintro e w' ⟨a, cap, rfl, h1, h2⟩
  exact ⟨a, cap, rfl, h2⟩
theorem bb_trial (v : Value) (w : World) (h : ReadsP w v B0) : Calls Tryz.prog 32 #[v] w fun e w' => ∃ g, e = .returned (.tuple #[.slice (some ⟨g, 0, none⟩) 21 21, .int .i64 0]) ∧ w'.cell? ⟨g, 0, none⟩ = some (.int .i64 8) ∧ Hid (Kpt w w') := by
  refine (trial_any v B0 w h).mono ?_
  rintro e w' ⟨hg, ⟨h1, _⟩ | ⟨_, ⟨_, g, hg', rfl, hr⟩ | ⟨⟨u, hu, hx⟩, _⟩⟩⟩
  · exact absurd (by decide) h1
  · exact ⟨g, rfl, hr.cell (j := 0) (by simp), hg.kpt⟩
  · exfalso
    have : ∀ u, u < 21 → amtB (posS B0 u) = true := by decide
    rw [this u hu] at hx
    cases hx
theorem bb_post3 (v : Value) (a : Option Addr) (w : World) (h : ReadsP w v B0) (h' : ReadsP w (.slice a 3 3) L0) : Calls Tryz.prog 29 #[v, .slice a 2 3] w fun e w' => ∃ a' c', e = .returned (.tuple #[.slice a' 0 c', .int .i64 4]) ∧ Hid (Kpt w w') := by
  refine (post_any v _ B0 (L0.take 2) w h (h'.take 2 (by decide))).mono ?_
  rintro e w' ⟨hk, R, E, v', hr, ho, rfl⟩
  obtain ⟨rfl, rfl⟩ := res_2 hr
  obtain ⟨a', c', rfl⟩ := ho.form
  exact ⟨a', c', rfl, hk⟩

set_option maxRecDepth 100000 in
set_option maxHeartbeats 4000000 in
theorem bookBegun (w : World) : Calls Tryz.prog 8 #[] w fun e w' => e = .returned (.bool true) ∧ Kpt w w' := by
  have CN := Lib.hid (fun w => bookCheck_none none 0 w)
  have LN := Lib.hid (fun w => lines_none none 0 w)
  go_enter Tryz.func8, Tryz.ntmps8
  go_wp2_with (first
    | (go_at_call 29; (with_reducible refine (bb_post1 _ _).mono ?_); rintro e w1 ⟨a1, c1, rfl, B, L, G⟩)
    | (go_at_call 30; (with_reducible refine (bb_bal _ _ B.out).mono ?_); rintro e w2 ⟨rfl, k⟩; have B := Lib.hid (B.out.kpt k.out); have L := Lib.hid (L.out.kpt k.out); have G := Lib.hid (ktr G.out k.out); clear k)
    | (go_at_call 31; (with_reducible refine (bb_turn _ _ L.out).mono ?_); rintro e w3 ⟨a3, c3, rfl, T, k⟩; have B := Lib.hid (B.out.kpt k.out); have L := Lib.hid (L.out.kpt k.out); have G := Lib.hid (ktr G.out k.out); clear k)
    | (go_at_call 29; (with_reducible refine (bb_post2 _ _ _ B.out T.out).mono ?_); rintro e w4 ⟨a4, c4, rfl, k⟩; have B := Lib.hid (B.out.kpt k.out); have L := Lib.hid (L.out.kpt k.out); have T := Lib.hid (T.out.kpt k.out); have G := Lib.hid (ktr G.out k.out); clear k)
    | (go_at_call 32; (with_reducible refine (bb_trial _ _ B.out).mono ?_); rintro e w5 ⟨g5, rfl, s5, k⟩; have S5 := Lib.hid s5; clear s5; have B := Lib.hid (B.out.kpt k.out); have L := Lib.hid (L.out.kpt k.out); have T := Lib.hid (T.out.kpt k.out); have G := Lib.hid (ktr G.out k.out); clear k)
    | (go_at_call 29; (with_reducible refine (bb_post3 _ _ _ B.out L.out).mono ?_); rintro e w6 ⟨a6, c6, rfl, k⟩; have S6 := Lib.hid (k.out.cell S5.out); have s6 := S6.out; have B := Lib.hid (B.out.kpt k.out); have T := Lib.hid (T.out.kpt k.out); have G := Lib.hid (ktr G.out k.out); clear k; have BL := Lib.hid (lit3 w6 49 (1, 0, -8) (2, 0, 5) (3, 0, 3) (inP_of (by decide))))
    | (go_at_call 9; (with_reducible refine (same_any _ _ B0 _ (B.out.kpt ((Kpt.refl _).alloc _)) BL.out).mono ?_); rintro e w7 ⟨rfl, k⟩; have s7 := k.cell (((Kpt.refl _).alloc _).cell S6.out); have S7 := Lib.hid s7; have T := Lib.hid (T.out.kpt (ktr ((Kpt.refl _).alloc _) k)); have G := Lib.hid (ktr (G.out.alloc _) k); clear k B BL; have TL := Lib.hid (lit3 w7 49 (3, 0, -3) (1, 0, 8) (2, 0, -5) (inP_of (by decide))))
    | (go_at_call 9; (with_reducible refine (same_any _ _ T0 _ (T.out.kpt ((Kpt.refl _).alloc _)) TL.out).mono ?_); rintro e w8 ⟨rfl, k⟩; have s8 := k.cell (((Kpt.refl _).alloc _).cell S7.out); have G := Lib.hid (ktr (G.out.alloc _) k); clear k)
    | (go_at_call 10; (with_reducible refine (CN.out _).mono ?_); rintro e w9 ⟨rfl, k⟩; have G := Lib.hid (ktr G.out k.kpt); clear k)
    | (go_at_call 33; (with_reducible refine (LN.out _).mono ?_); rintro e w10 ⟨rfl, k⟩; have G := Lib.hid (ktr G.out k.kpt); clear k))
  go_ret
  exact ⟨rfl, G.out⟩

end Go.Proofs.YtgccipmeiceonaaGreat

-- BookR
namespace Go.Proofs.YtgccipmeiceonaaGreat
open Go.RowKit
set_option linter.unusedVariables false

/-- what stands below nought, the other way round -/
def negU (l : List (Int × Int × Int)) (u : Nat) : List Int := (l.filter fun p => decide (p.2.1 = (u : Int)) && decide (p.2.2 < 0)).map fun p => -p.2.2
/-- the amounts of a place -/
def amtsOf (l : List (Int × Int × Int)) (a u : Int) : List Int := (l.filter fun p => decide (p.1 = a) && decide (p.2.1 = u)).map fun p => p.2.2

theorem take_one {l : List (Int × Int × Int)} {k : Nat} (hk : k < l.length) : l.take (k + 1) = l.take k ++ [l.getD k default] := by
  rw [List.take_succ_eq_append_getElem hk, List.getD_eq_getElem?_getD, List.getElem?_eq_getElem hk]; rfl
theorem negU_more {l : List (Int × Int × Int)} {k : Nat} (hk : k < l.length) (u : Nat) (h1 : (l.getD k default).2.1 = (u : Int)) (h2 : (l.getD k default).2.2 < 0) : negU (l.take (k + 1)) u = negU (l.take k) u ++ [-(l.getD k default).2.2] := by
  unfold negU
  have e := take_one hk
  generalize l.getD k default = q at *
  rw [e, List.filter_append, List.filter_cons_of_pos (by simp [h1, h2]), List.map_append]
  rfl
theorem negU_stay {l : List (Int × Int × Int)} {k : Nat} (hk : k < l.length) (u : Nat) (h : ¬ ((l.getD k default).2.1 = (u : Int) ∧ (l.getD k default).2.2 < 0)) : negU (l.take (k + 1)) u = negU (l.take k) u := by
  unfold negU
  have e := take_one hk
  generalize l.getD k default = q at *
  rw [e, List.filter_append, List.filter_cons_of_neg (by simpa using h)]
  simp
theorem amtsOf_more {l : List (Int × Int × Int)} {k : Nat} (hk : k < l.length) (a u : Int) (h1 : (l.getD k default).1 = a) (h2 : (l.getD k default).2.1 = u) : amtsOf (l.take (k + 1)) a u = amtsOf (l.take k) a u ++ [(l.getD k default).2.2] := by
  unfold amtsOf
  have e := take_one hk
  generalize l.getD k default = q at *
  rw [e, List.filter_append, List.filter_cons_of_pos (by simp [h1, h2]), List.map_append]
  rfl
theorem amtsOf_stay {l : List (Int × Int × Int)} {k : Nat} (hk : k < l.length) (a u : Int) (h : ¬ ((l.getD k default).1 = a ∧ (l.getD k default).2.1 = u)) : amtsOf (l.take (k + 1)) a u = amtsOf (l.take k) a u := by
  unfold amtsOf
  have e := take_one hk
  generalize l.getD k default = q at *
  rw [e, List.filter_append, List.filter_cons_of_neg (by simpa using h)]
  simp
theorem negU_sum {l : List (Int × Int × Int)} (u : Nat) : posS l u - (negU l u).sum = unitS l u := by
  induction l with
  | nil => rfl
  | cons p l ih =>
    unfold posS posP negU at *
    rw [List.filter_cons, List.filter_cons, unitS]
    by_cases h1 : p.2.1 = (u : Int)
    · by_cases h2 : 0 < p.2.2
      · rw [if_pos (by simpa using h2), if_neg (by simp; omega), unitS, if_pos h1]; omega
      · by_cases h3 : p.2.2 < 0
        · rw [if_neg (by simpa using h2), if_pos (by simp [h1, h3]), List.map_cons, List.sum_cons, if_pos h1]; omega
        · rw [if_neg (by simpa using h2), if_neg (by simp; omega), if_pos h1]; omega
    · by_cases h2 : 0 < p.2.2
      · rw [if_pos (by simpa using h2), if_neg (by simp [h1]), unitS, if_neg h1]; omega
      · rw [if_neg (by simpa using h2), if_neg (by simp [h1]), if_neg h1]; omega
theorem amtsOf_sum (l : List (Int × Int × Int)) (a u : Int) : (amtsOf l a u).sum = sumAt l a u := by
  induction l with
  | nil => rfl
  | cons p l ih =>
    unfold amtsOf at *
    rw [List.filter_cons, sumAt]
    by_cases h : p.1 = a ∧ p.2.1 = u
    · rw [if_pos (by simp [h.1, h.2]), if_pos h, List.map_cons, List.sum_cons]; omega
    · rw [if_neg (by simpa using h), if_neg h]; omega
theorem negU_len (l : List (Int × Int × Int)) (k u : Nat) : (negU (l.take k) u).length ≤ l.length := by
  unfold negU
  rw [List.length_map]
  have h := List.length_filter_le (fun p : Int × Int × Int => decide (p.2.1 = (u : Int)) && decide (p.2.2 < 0)) (l.take k)
  rw [List.length_take] at h
  omega
theorem amtsOf_len (l : List (Int × Int × Int)) (k : Nat) (a u : Int) : (amtsOf (l.take k) a u).length ≤ l.length := by
  unfold amtsOf
  rw [List.length_map]
  have h := List.length_filter_le (fun p : Int × Int × Int => decide (p.1 = a) && decide (p.2.1 = u)) (l.take k)
  rw [List.length_take] at h
  omega
theorem negU_amt {l : List (Int × Int × Int)} (h : ∀ p ∈ l, ptB p = true) (u : Nat) : ∀ z ∈ negU l u, amtB z = true := fun z hz => by
  obtain ⟨p, hp, rfl⟩ := List.mem_map.1 hz
  have := pt_t (h p (List.mem_filter.1 hp).1)
  exact amt_mk (by omega) (by omega)
theorem amtsOf_amt {l : List (Int × Int × Int)} (h : ∀ p ∈ l, ptB p = true) (a u : Int) : ∀ z ∈ amtsOf l a u, amtB z = true := fun z hz => by
  obtain ⟨p, hp, rfl⟩ := List.mem_map.1 hz
  have := pt_t (h p (List.mem_filter.1 hp).1)
  exact amt_mk (by omega) (by omega)
/-- the balances of the first accounts -/
def balsOf (l : List (Int × Int × Int)) (u k : Nat) : List Int := (List.range k).map fun a : Nat => sumAt l (a : Int) (u : Int)
theorem balsOf_more (l : List (Int × Int × Int)) (u k : Nat) : balsOf l u (k + 1) = balsOf l u k ++ [sumAt l (k : Int) (u : Int)] := by
  unfold balsOf
  rw [List.range_succ, List.map_append]
  rfl
theorem balsOf_len (l : List (Int × Int × Int)) (u k : Nat) : (balsOf l u k).length = k := by simp [balsOf]
theorem balsOf_sum (l : List (Int × Int × Int)) (u k : Nat) : (balsOf l u k).sum = accS l u k := by
  induction k with
  | zero => rfl
  | succ k ih => rw [balsOf_more, List.sum_append, ih, accS]; simp
theorem strict_amt {l : List (Int × Int × Int)} (h : Strict (-1) l) (a u : Int) : amtB (sumAt l a u) = true := by
  by_cases hq : ∃ q ∈ l, q.1 = a ∧ q.2.1 = u
  · obtain ⟨q, hq, rfl, rfl⟩ := hq
    rw [sumAt_mem h hq]
    exact amt_mk (pt_t (strict_pt h q hq)).2.2.2.2.2.1 (pt_t (strict_pt h q hq)).2.2.2.2.2.2
  · rw [sumAt_none fun q hq' e => hq ⟨q, hq', e⟩]; decide
theorem balsOf_amt {l : List (Int × Int × Int)} (h : Strict (-1) l) (u k : Nat) : ∀ z ∈ balsOf l u k, amtB z = true := fun z hz => by
  obtain ⟨a, _, rfl⟩ := List.mem_map.1 hz
  exact strict_amt h _ _

theorem Owns.kpt {w w' : World} {base : Nat} {v : Value} {zs : List Int} (h : Owns w base v zs) (g : Kpt w w') : Owns w' base v zs := h.below g (Nat.le_refl _)
theorem Row.kpt {w w' : World} {g : Nat} {zs : List Int} (h : Row w g zs) (k : Kpt w w') : Row w' g zs := h.below k h.lt
/-- a sum that is an amount, of a list of the call's own -/
theorem sumOf_own {w : World} {base : Nat} (v : Value) (zs : List Int) (S : Int) (h : Owns w base v zs) (hm : zs.length ≤ 1000) (ha : ∀ z ∈ zs, amtB z = true) (hS : zs.sum = S) (hA : amtB S = true) :
    Calls Tryz.prog 63 #[v] w fun e w' => e = .returned (.tuple #[.int .i64 S, .bool true]) ∧ Kpt w w' := by
  obtain ⟨_, _, _, hr⟩ := h.reads
  refine (sumOf_any v zs w hr hm ha).mono ?_
  rintro e w' ⟨hk, ⟨_, rfl⟩ | ⟨hx, _⟩⟩
  · exact ⟨by rw [hS], hk⟩
  · rw [hS, hA] at hx; cases hx

end Go.Proofs.YtgccipmeiceonaaGreat
