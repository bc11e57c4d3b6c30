/-
  Merged: SumsEq, Amounts.
-/
import Derived.Test.YtgccipmeiceonaaMp39
import Derived.Laws.StructEq
import Derived.ChangeKeysEq
import Derived.Laws.Rows
import Derived.Test.YtgccipmeiceonaaMp14
-- SumsEq
namespace Go.Proofs.Ytgccipmeiceonaa
open Go.RowKit
set_option linter.unusedVariables false

theorem hi_zero : hiOf 0 = 0 := rfl
theorem lo_zero : loOf 0 = 0 := rfl
theorem words_zero (S : Int) : (hiOf S == 0 && loOf S == 0) = decide (S = 0) := by
  by_cases h : S = 0
  · subst h; rfl
  · rw [decide_eq_false h]
    cases e : (hiOf S == 0 && loOf S == 0) with
    | false => rfl
    | true =>
      exfalso
      rw [Bool.and_eq_true, beq_iff_eq, beq_iff_eq] at e
      unfold hiOf loOf at e
      omega
theorem sum_eql (d : Nat) (a b c e : Int) (w : World) : (Op.equalIn (d + 2) 145 (.agg #[.int .i64 a, .int .u64 b]) (.agg #[.int .i64 c, .int .u64 e])).run Try.prog w = .ok (a == c && b == e) w := by
  have u3 := Try.underlying3
  have u4 := Try.underlying143
  have hS : Try.prog.underlying 145 = some (.struct (Try.prog.fieldsOf 145)) := by kernel_rfl
  have hp : Try.prog.stoodInHeld 145 = false := by kernel_rfl
  have a3 : ∀ w, (isAgg 3).run Try.prog w = .ok false w := fun w => by kernel_rfl
  have a4 : ∀ w, (isAgg 143).run Try.prog w = .ok false w := fun w => by kernel_rfl
  rw [run_equalIn_agg w (d + 1) 145 _ _ hS hp]
  simp only [Program.fieldsOf, Try.underlying145]
  go_simp
  by_cases h1 : a = c <;> by_cases h2 : b = e <;> simp [h1, h2]

/-- the words of so many sums -/
def sumsC (m : Nat) (f : Nat → Int) : Array Value := Array.ofFn (n := m * 2) fun i => if i.val % 2 = 0 then .int .i64 (hiOf (f (i.val / 2))) else .int .u64 (loOf (f (i.val / 2)))
theorem sums_size (m : Nat) (f : Nat → Int) : (sumsC m f).size = m * 2 := Array.size_ofFn
theorem sums_at (m : Nat) (f : Nat → Int) (i : Nat) (h : i < m * 2) : (sumsC m f)[i]? = some (if i % 2 = 0 then .int .i64 (hiOf (f (i / 2))) else .int .u64 (loOf (f (i / 2)))) := by
  unfold sumsC
  rw [Array.getElem?_ofFn, dif_pos h]
theorem sums_hi (m : Nat) (f : Nat → Int) (u : Nat) (hu : u < m) : (sumsC m f)[u * 2]? = some (.int .i64 (hiOf (f u))) := by
  rw [sums_at m f _ (by omega), if_pos (by omega), Nat.mul_div_cancel _ (by omega)]
theorem sums_lo (m : Nat) (f : Nat → Int) (u : Nat) (hu : u < m) : (sumsC m f)[u * 2 + 1]? = some (.int .u64 (loOf (f u))) := by
  rw [sums_at m f _ (by omega), if_neg (by omega), show (u * 2 + 1) / 2 = u by omega]
theorem sums_put (m : Nat) (f g : Nat → Int) (u : Nat) (hu : u < m) (h : ∀ x, x ≠ u → g x = f x) :
    ((sumsC m f).setIfInBounds (u * 2) (.int .i64 (hiOf (g u)))).setIfInBounds (u * 2 + 1) (.int .u64 (loOf (g u))) = sumsC m g := by
  apply Array.ext
  · simp [sums_size]
  · intro i h1 h2
    rw [sums_size] at h2
    have e : (sumsC m g)[i]? = _ := sums_at m g i h2
    apply Option.some.inj
    rw [← Array.getElem?_eq_getElem, ← Array.getElem?_eq_getElem, e, Array.getElem?_setIfInBounds, Array.getElem?_setIfInBounds, Array.size_setIfInBounds, sums_size]
    by_cases e1 : u * 2 + 1 = i
    · subst e1
      rw [if_pos rfl, if_pos (by omega), if_neg (by omega), show (u * 2 + 1) / 2 = u by omega]
    · rw [if_neg e1]
      by_cases e2 : u * 2 = i
      · subst e2
        rw [if_pos rfl, if_pos (by omega), if_pos (by omega), show u * 2 / 2 = u by omega]
      · rw [if_neg e2, sums_at m f i h2, h _ (by omega)]
theorem sums_ext {m : Nat} {f g : Nat → Int} (h : ∀ x, x < m → f x = g x) : sumsC m f = sumsC m g := by
  apply Array.ext
  · simp [sums_size]
  · intro i h1 h2
    rw [sums_size] at h1
    apply Option.some.inj
    rw [← Array.getElem?_eq_getElem, ← Array.getElem?_eq_getElem, sums_at m f i h1, sums_at m g i h1, h _ (by omega)]
theorem sums_part (m : Nat) (f : Nat → Int) (u : Nat) (hu : u < m) : (sumsC m f).extract (u * 2) (u * 2 + 2) = #[.int .i64 (hiOf (f u)), .int .u64 (loOf (f u))] := by
  apply Array.ext
  · simp [sums_size]; omega
  · intro i h1 h2
    have h2' : i < 2 := h2
    apply Option.some.inj
    rw [← Array.getElem?_eq_getElem, ← Array.getElem?_eq_getElem, Array.getElem?_extract, if_pos (by simp [sums_size] at h1 ⊢; omega)]
    rcases (show i = 0 ∨ i = 1 by omega) with rfl | rfl
    · rw [Nat.add_zero, sums_hi m f u hu]; rfl
    · rw [sums_lo m f u hu]; rfl
theorem run_part_sums (m : Nat) (f : Nat → Int) (u : Nat) (hu : u < m) (w : World) : (part 145 (sumsC m f) (u * 2)).run Try.prog w = .ok (.agg #[.int .i64 (hiOf (f u)), .int .u64 (loOf (f u))]) w := by
  have a := fun w => (by kernel_rfl : (isAgg 145).run Try.prog w = .ok true w)
  have z := fun w => (by kernel_rfl : (sizeOf 145).run Try.prog w = .ok 2 w)
  simp [part, a, z, sums_part m f u hu]
theorem run_items (m d : Nat) (f g : Nat → Int) (w : World) : ∀ is : List Nat, (∀ i ∈ is, i < m) → (Op.eqItems (d + 2) 145 2 (sumsC m f) (sumsC m g) is).run Try.prog w = .ok (is.all fun i => hiOf (f i) == hiOf (g i) && loOf (f i) == loOf (g i)) w
  | [], _ => by simp [Op.eqItems]
  | i :: is, h => by
    simp only [Op.eqItems, Sem.run_bind, run_part_sums m f i (h i (by simp)), run_part_sums m g i (h i (by simp)), Result.andThen_ok, sum_eql, List.all_cons]
    cases (hiOf (f i) == hiOf (g i) && loOf (f i) == loOf (g i)) with
    | false => simp
    | true => simpa using run_items m d f g w is fun j hj => h j (by simp [hj])

end Go.Proofs.Ytgccipmeiceonaa

-- Amounts
namespace Go.Proofs.Ytgccipmeiceonaa
open Go.RowKit
set_option linter.unusedVariables false

/-- the first k values, and then noughts -/
def mixF (f : Nat → Int) (n k : Nat) : List Int := (List.range n).map fun u => if u < k then f u else 0
theorem mixF_zero (f : Nat → Int) (n : Nat) : mixF f n 0 = List.replicate n 0 := by
  apply List.ext_getElem?
  intro j
  unfold mixF
  by_cases h : j < n
  · simp [h]
  · simp [h]
theorem mixF_len (f : Nat → Int) (n k : Nat) : (mixF f n k).length = n := by simp [mixF]
theorem mixF_all (f : Nat → Int) (n : Nat) : mixF f n n = (List.range n).map f := by
  unfold mixF
  exact List.map_congr_left fun u hu => if_pos (List.mem_range.1 hu)
theorem mixF_put (f : Nat → Int) (n k : Nat) (hk : k < n) : (mixF f n k).set k (f k) = mixF f n (k + 1) := by
  apply List.ext_getElem?
  intro j
  unfold mixF
  by_cases h : j < n
  · rcases Nat.lt_trichotomy j k with h1 | h1 | h1
    · simp [h, Nat.ne_of_gt h1, h1, Nat.lt_succ_of_lt h1]
    · subst h1; simp [h]
    · simp [h, Nat.ne_of_lt h1, show ¬ j < k by omega, show ¬ j < k + 1 by omega]
  · simp [h]

/-- what Amounts answers -/
def AmtsEnd (w : World) (n : Nat) (f : Nat → Int) (e : Ending) (w' : World) : Prop :=
  Grew w w' ∧ (((∀ u, u < n → amtB (f u) = true) ∧ ∃ g, w.heap.size ≤ g ∧ e = .returned (.tuple #[.slice (some ⟨g, 0, none⟩) n n, .int .i64 0]) ∧ Row w' g ((List.range n).map f)) ∨
    ((∃ u, u < n ∧ amtB (f u) = false) ∧ e = .returned (.tuple #[.slice none 0 0, .int .i64 8])))

set_option maxHeartbeats 1000000 in
theorem amounts_run (g n cap : Nat) (f : Nat → Int) (T : TypeId) (w : World) (hn : n ≤ 1000) (hb : Blk w g (sumsC n f) T) :
    Calls Try.prog 137 #[.slice (some ⟨g, 0, none⟩) n cap] w (AmtsEnd w n f) := by
  have HB := Lib.hid hb
  have hlt := hb.lt
  have MK := run_zeros w n (by omega)
  clear hb
  go_enter Try.func137, Try.ntmps137
  go_wp2
  go_loopw [14] (fun i wr => ∃ k : Nat, k ≤ n ∧ i = .int .i64 k ∧ Hid (∀ u, u < k → amtB (f u) = true) ∧ Hid (Row wr w.heap.size (mixF f n k)) ∧ Hid (Grew w wr)) (fun i _ => n - (intOf i).toNat)
  case atStart => exact ⟨0, Nat.zero_le _, rfl, (fun u hu => absurd hu (Nat.not_lt_zero u)), (by unfold Hid; rw [mixF_zero]; exact Row.made w n), (Grew.refl _).alloc _ _⟩
  case round =>
    obtain ⟨k, hk, rfl, HA, HR, HG⟩ := hrel
    clear MK
    by_cases hlt2 : k < n
    · have c0 : wr.cell? ⟨g, k * 2, none⟩ = some (.int .i64 (hiOf (f k))) := ((HB.out.grew HG.out).cell _).trans (sums_hi n _ k hlt2)
      have c1 : wr.cell? ⟨g, k * 2 + 1, none⟩ = some (.int .u64 (loOf (f k))) := ((HB.out.grew HG.out).cell _).trans (sums_lo n _ k hlt2)
      have HP := Lib.hid (mixF_put f n k hlt2)
      have HL : Hid (∀ u, u < k + 1 → amtB (f k) = true → amtB (f u) = true) := fun u hu h => by
        rcases Nat.lt_or_ge u k with h1 | h1
        · exact HA.out u h1
        · obtain rfl : u = k := by omega
          exact h
      have HX : Hid (amtB (f k) = false → ∃ u, u < n ∧ amtB (f u) = false) := fun h => ⟨k, hlt2, h⟩
      generalize f k = z at *
      cases hz : amtB z with
      | true =>
        have AM := Lib.hid (fun W => amount_ok z W hz)
        have HZ := Lib.hid hz
        clear hz
        go_wp2_with (go_at_call 121; (with_reducible refine (AM.out _).mono ?_); rintro e w4 ⟨rfl, t4⟩; have R4 := Lib.hid ((HR.out.grew ((Grew.refl _).alloc _ _)).grew t4); have G4 := Lib.hid (gtr (HG.out.alloc _ _) t4); clear t4; have fz := R4.out.frozen k; have cz := R4.out.cell (j := k) (by rw [mixF_len]; exact hlt2))
        go_roundw
        case rel => exact ⟨k + 1, by omega, by go_num, fun u hu => HL.out u hu HZ.out, by unfold Hid; rw [← HP.out]; exact R4.out.put k z, G4.out.setCell (by simp) _⟩
        case measure => simp [intOf]; omega
      | false =>
        have AM := Lib.hid (fun W => amount_no z W hz)
        have HZ := Lib.hid hz
        clear hz
        go_wp2_with (go_at_call 121; (with_reducible refine (AM.out _).mono ?_); rintro e w4 ⟨rfl, t4⟩; have G4 := Lib.hid (gtr (HG.out.alloc _ _) t4); clear t4)
        go_ret2
        exact ⟨G4.out, .inr ⟨HX.out HZ.out, rfl⟩⟩
    · obtain rfl : k = n := by omega
      have e := mixF_all f k
      rw [e] at HR
      clear e
      go_wp2
      go_ret2
      exact ⟨HG.out, .inl ⟨HA.out, _, Nat.le_refl _, rfl, HR.out⟩⟩

end Go.Proofs.Ytgccipmeiceonaa
