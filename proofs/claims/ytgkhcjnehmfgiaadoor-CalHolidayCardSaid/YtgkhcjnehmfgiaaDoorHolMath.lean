/-
  A calendar with a holiday less: what its calls answer.
-/
import Derived.Test.YtgkhcjnehmfgiaaDoorCalK
namespace Go.Proofs.YtgkhcjnehmfgiaaDoor
open Go.RowKit
set_option linter.unusedVariables false

theorem holE_mk {l : List Int} : ∀ {b : Int}, (∀ x ∈ l, b < x ∧ 0 ≤ x ∧ x ≤ 3652058) → l.Pairwise (· < ·) → holE b l = 0 := by
  induction l with
  | nil => intro b _ _; rfl
  | cons x l ih =>
    intro b h hp
    obtain ⟨h1, h2, h3⟩ := h x (by simp)
    obtain ⟨p1, p2⟩ := List.pairwise_cons.1 hp
    rw [holE, if_neg (by omega), if_neg (by omega), if_neg (by omega)]
    exact ih (fun y hy => ⟨p1 y hy, (h y (by simp [hy])).2⟩) p2
/-- the holidays without number k -/
def lessOf (hs : List Int) (k : Nat) : List Int := hs.take k ++ hs.drop (k + 1)
theorem less_split {hs : List Int} {k : Nat} (hk : k < hs.length) : hs = hs.take k ++ hs.getD k 0 :: hs.drop (k + 1) := by
  rw [List.getD_eq_getElem?_getD, List.getElem?_eq_getElem hk]
  simp
theorem less_len {hs : List Int} {k : Nat} (hk : k < hs.length) : (lessOf hs k).length = hs.length - 1 := by
  unfold lessOf
  rw [List.length_append, List.length_take, List.length_drop]; omega
theorem less_sub {hs : List Int} {k : Nat} : (lessOf hs k).Sublist hs := by
  unfold lessOf
  rw [← List.eraseIdx_eq_take_drop_succ]
  exact List.eraseIdx_sublist _ _
theorem less_cal {W : Int} {hs : List Int} {k : Nat} (h : calE W hs = 0) (hk : k < hs.length) : calE W (lessOf hs k) = 0 := by
  obtain ⟨w0, w1, hl, -⟩ := cal_right h
  obtain ⟨hp, hm⟩ := cal_strict h
  rw [calE_h (by omega) (by rw [less_len hk]; omega)]
  exact holE_mk (fun x hx => by have := hm x (less_sub.mem hx); omega) (hp.sublist less_sub)
theorem less_fits {hs : List Int} {k : Nat} (h : ∀ x ∈ hs, 0 ≤ x ∧ x ≤ 3652058) : Fits (lessOf hs k) := fun j hj => by
  rw [List.getD_eq_getElem?_getD, List.getElem?_eq_getElem hj]
  have := h _ (less_sub.mem (List.getElem_mem hj))
  simp only [Option.getD_some]
  omega
theorem less_biz {W : Int} {hs : List Int} {k : Nat} (hk : k < hs.length) (x : Int) (hx : x ≠ hs.getD k 0) : bizB W hs x = bizB W (lessOf hs k) x := by
  have e : hs.contains x = (lessOf hs k).contains x := by
    have h1 := less_split hk
    rw [Bool.eq_iff_iff, List.contains_iff_mem, List.contains_iff_mem]
    unfold lessOf
    generalize hs.getD k 0 = d at h1 hx
    generalize hs.take k = a at h1
    generalize hs.drop (k + 1) = c at h1
    rw [h1]
    simp [hx]
  unfold bizB
  rw [e]
theorem biz_day {W : Int} {hs : List Int} {k : Nat} (hk : k < hs.length) : bizB W hs (hs.getD k 0) = false := by
  have : hs.getD k 0 ∈ hs := by rw [List.getD_eq_getElem?_getD, List.getElem?_eq_getElem hk]; simp
  unfold bizB
  rw [List.contains_iff_mem.2 this]; rfl

/-- what the law asks of both calendars -/
theorem hol_facts {W : Int} {hs : List Int} {k : Nat} (h : calE W hs = 0) (hk : k < hs.length) (f t n : Int) :
    daysE W (lessOf hs k) [hs.getD k 0] = 0 ∧ daysE W hs [hs.getD k 0] = 0 ∧ isR W hs (hs.getD k 0) = false ∧ daysE W (lessOf hs k) [n] = daysE W hs [n] ∧ (n ≠ hs.getD k 0 → isR W (lessOf hs k) n = isR W hs n) ∧
      couE W (lessOf hs k) f t = couE W hs f t ∧ 0 ≤ couE W hs f t ∧ 0 ≤ couR W hs f t ∧ couR W hs f t ≤ 4000000 ∧
      (couE W hs f t = 0 → couR W (lessOf hs k) f t = couR W hs f t + (if f < hs.getD k 0 ∧ hs.getD k 0 ≤ t ∧ isR W (lessOf hs k) (hs.getD k 0) = true then 1 else 0)) := by
  have hl := less_cal h hk
  have hb := less_biz (W := W) hk
  have hd := biz_day (W := W) hk
  have hm : 0 ≤ hs.getD k 0 ∧ hs.getD k 0 ≤ 3652058 := (cal_strict h).2 _ (by rw [List.getD_eq_getElem?_getD, List.getElem?_eq_getElem hk]; simp)
  generalize hs.getD k 0 = d at *
  have d1 : daysE W (lessOf hs k) [d] = 0 := days_mk1 hl hm.1 hm.2
  have d2 : daysE W hs [d] = 0 := days_mk1 h hm.1 hm.2
  have e1 : ∀ ns, daysE W (lessOf hs k) ns = daysE W hs ns := fun ns => by unfold daysE; rw [if_pos h, if_pos hl]
  refine ⟨d1, d2, by unfold isR; rw [if_pos d2]; exact hd, e1 _, fun hn => by unfold isR; rw [e1, hb n hn], by unfold couE; rw [e1], ?_, ?_, ?_, ?_⟩
  · unfold couE
    by_cases g : daysE W hs [f, t] = 0
    · rw [if_pos g]; split <;> omega
    · rw [if_neg g]
      unfold daysE dysE
      rw [if_pos h]; split <;> omega
  · unfold couR; split <;> (try split) <;> omega
  · unfold couR
    by_cases g : daysE W hs [f, t] = 0
    · rw [if_pos g]
      obtain ⟨-, f0, f1, t0, t1⟩ := daysE_2 g
      split
      · omega
      · have := cnt_le (bizB W hs) f t; omega
    · rw [if_neg g]; omega
  · intro hE
    unfold couE at hE
    by_cases g : daysE W hs [f, t] = 0
    · rw [if_pos g] at hE
      have ht : ¬ t < f := fun q => by rw [if_pos q] at hE; omega
      unfold couR
      rw [e1, if_pos g, if_pos g, if_neg ht, if_neg ht, cnt_point (β := bizB W hs) (γ := bizB W (lessOf hs k)) (h := d) (fun x hx => hb x hx) hd]
      unfold isR
      rw [d1, if_pos rfl]
      split <;> simp
    · rw [if_neg g] at hE; exact absurd hE g

end Go.Proofs.YtgkhcjnehmfgiaaDoor
