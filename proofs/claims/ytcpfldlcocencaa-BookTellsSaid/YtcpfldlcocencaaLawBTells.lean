/-
  BookTells: the walk.
-/
import Derived.Test.YtcpfldlcocencaaRefBook4
import Derived.Test.YtcpfldlcocencaaLawBook3
import Derived.Test.YtcpfldlcocencaaSameInts
import Derived.StillTailTactics
namespace Go.Proofs.Ytcpfldlcocencaa
open Go.RowKit
set_option linter.unusedVariables false

/-- two posts of one book and the same postings -/
def Twin (w : World) (b l : List (Int × Int × Int)) (R : List (Int × Int × Int)) (E : Int) (e : Ending) (w' : World) : Prop := Hid (Kpt w w') ∧ ∃ a n c, e = .returned (.tuple #[.slice a n c, .int .i64 E]) ∧ Hid (ReadsP w' (.slice a n c) R)
theorem postRes_in {b l R : List (Int × Int × Int)} {E : Int} (h : PostRes b l R E) : InP R := by
  rcases post_cases h with ⟨_, rfl⟩ | ⟨_, P⟩
  · exact fun p hp => by simp at hp
  · exact inP_of (strict_pt P.book.strict)
theorem postRes_ex (b l : List (Int × Int × Int)) : ∃ R E, ∀ R' E', PostRes b l R' E' → R' = R ∧ E' = E := by
  by_cases h : ∃ R E, PostRes b l R E
  · obtain ⟨R, E, h⟩ := h
    exact ⟨R, E, fun R' E' h' => postRes_one h' h⟩
  · exact ⟨[], 0, fun R' E' h' => absurd ⟨R', E', h'⟩ h⟩
theorem post_twin (v u : Value) (b l R : List (Int × Int × Int)) (E : Int) (w : World) (hb : ReadsP w v b) (hl : ReadsP w u l) (h : ∀ R' E', PostRes b l R' E' → R' = R ∧ E' = E) : Calls Try.prog 10 #[v, u] w (Twin w b l R E) := by
  refine (post_any v u b l w hb hl).mono ?_
  rintro e w' ⟨hk, R', E', v', hr, ho, rfl⟩
  have hi := postRes_in hr
  obtain ⟨rfl, rfl⟩ := h _ _ hr
  obtain ⟨a, c, rfl⟩ := ho.form
  exact ⟨hk, a, _, c, rfl, ho.reads hi⟩
theorem rpost_twin (v u : Value) (b l R : List (Int × Int × Int)) (E : Int) (w : World) (hb : ReadsP w v b) (hl : ReadsP w u l) (h : ∀ R' E', PostRes b l R' E' → R' = R ∧ E' = E) : Calls Try.prog 14 #[v, u] w (Twin w b l R E) := by
  refine (rpost_any v u b l w hb hl).mono ?_
  rintro e w' ⟨hk, R', E', v', hr, ho, rfl⟩
  have hi := postRes_in hr
  obtain ⟨rfl, rfl⟩ := h _ _ hr
  obtain ⟨a, c, rfl⟩ := ho.form
  exact ⟨hk, a, _, c, rfl, ho.reads hi⟩

/-- what both trials answer -/
def triE (l : List (Int × Int × Int)) : Int := if linE l ≠ 0 then linE l else if (List.range 21).all fun u => amtB (posS l u) then 0 else 8
def triR (l : List (Int × Int × Int)) : List Int := if triE l = 0 then trialL l 21 else []
theorem tri_0 {l : List (Int × Int × Int)} (h : linE l = 0) (h2 : ∀ u, u < 21 → amtB (posS l u) = true) : triE l = 0 ∧ triR l = trialL l 21 := by
  have e : triE l = 0 := by
    unfold triE
    rw [if_neg (by simpa using h), if_pos (List.all_eq_true.2 fun u hu => h2 u (List.mem_range.1 hu))]
  exact ⟨e, by unfold triR; rw [if_pos e]⟩
theorem tri_8 {l : List (Int × Int × Int)} (h : linE l = 0) (h2 : ∃ u, u < 21 ∧ amtB (posS l u) = false) : triE l = 8 ∧ triR l = [] := by
  obtain ⟨u, hu, hx⟩ := h2
  have e : triE l = 8 := by
    unfold triE
    rw [if_neg (by simpa using h), if_neg]
    intro hq
    have := List.all_eq_true.1 hq u (List.mem_range.2 hu)
    rw [hx] at this; cases this
  exact ⟨e, by unfold triR; rw [if_neg (by rw [e]; decide)]⟩
theorem tri_e {l : List (Int × Int × Int)} (h : linE l ≠ 0) : triE l = linE l ∧ triR l = [] := by
  have e : triE l = linE l := by unfold triE; rw [if_pos h]
  exact ⟨e, by unfold triR; rw [if_neg (by rw [e]; exact h)]⟩
def TriTwin (w : World) (l : List (Int × Int × Int)) (e : Ending) (w' : World) : Prop := Hid (Kpt w w') ∧ ∃ v, e = .returned (.tuple #[v, .int .i64 (triE l)]) ∧ Hid (Reads w' v (triR l))
theorem trial_twin (v : Value) (l : List (Int × Int × Int)) (w : World) (hl : ReadsP w v l) : Calls Try.prog 13 #[v] w (TriTwin w l) := by
  refine (trial_any v l w hl).mono ?_
  rintro e w' ⟨hg, ⟨h1, rfl⟩ | ⟨h0, ⟨h1, g, hg', rfl, hr⟩ | ⟨hx, rfl⟩⟩⟩
  · obtain ⟨e1, e2⟩ := tri_e h1
    exact ⟨hg.kpt, _, by rw [e1], by rw [e2]; exact reads_nil _ _ _⟩
  · obtain ⟨e1, e2⟩ := tri_0 h0 h1
    refine ⟨hg.kpt, _, by rw [e1], ?_⟩
    rw [e2]
    have := hr.reads (by unfold maxLen; simp) 21
    unfold Hid
    simpa [trialL] using this
  · obtain ⟨e1, e2⟩ := tri_8 h0 hx
    exact ⟨hg.kpt, _, by rw [e1], by rw [e2]; exact reads_nil _ _ _⟩
theorem rtrial_twin (v : Value) (l : List (Int × Int × Int)) (w : World) (hl : ReadsP w v l) : Calls Try.prog 18 #[v] w (TriTwin w l) := by
  refine (rtrial_any v l w hl).mono ?_
  rintro e w' ⟨hg, ⟨h1, rfl⟩ | ⟨h0, ⟨h1, v', ho, rfl⟩ | ⟨hx, rfl⟩⟩⟩
  · obtain ⟨e1, e2⟩ := tri_e h1
    exact ⟨hg, _, by rw [e1], by rw [e2]; exact reads_nil _ _ _⟩
  · obtain ⟨e1, e2⟩ := tri_0 h0 h1
    obtain ⟨_, _, _, hr⟩ := ho.reads
    exact ⟨hg, _, by rw [e1], by rw [e2]; exact hr⟩
  · obtain ⟨e1, e2⟩ := tri_8 h0 hx
    exact ⟨hg, _, by rw [e1], by rw [e2]; exact reads_nil _ _ _⟩

/-- what Turn answers -/
def turnR (l : List (Int × Int × Int)) : List (Int × Int × Int) := if chkE l = 0 then turnP l else []
theorem turnR_0 {l : List (Int × Int × Int)} (h : chkE l = 0) : turnR l = turnP l := by unfold turnR; rw [if_pos h]
theorem turnR_e {l : List (Int × Int × Int)} (h : chkE l ≠ 0) : turnR l = [] := by unfold turnR; rw [if_neg h]
theorem turn_twin (v : Value) (l : List (Int × Int × Int)) (w : World) (hl : ReadsP w v l) : Calls Try.prog 12 #[v] w fun e w' => ∃ a n c, e = .returned (.tuple #[.slice a n c, .int .i64 (chkE l)]) ∧ Hid (ReadsP w' (.slice a n c) (turnR l)) ∧ Hid (Kpt w w') := by
  refine (turn_any v l w hl).mono ?_
  rintro e w' ⟨hk, ⟨h1, rfl⟩ | ⟨h1, a, cap, ho, rfl⟩⟩
  · exact ⟨none, 0, 0, rfl, by rw [turnR_e h1]; exact readsP_nil _ _ _ fun _ => rfl, hk⟩
  · exact ⟨a, _, cap, by rw [h1], by rw [turnR_0 h1]; exact ho.reads (inP_of (turn_pt (chk_0 h1).2.2.1)), hk⟩

/-- the last k postings, turned -/
theorem turn_step {l : List (Int × Int × Int)} {k : Nat} (hk : k < l.length) : turnP (l.drop k) = turnP (l.drop (k + 1)) ++ [negP (l.getD k default)] := by
  rw [drop_getD hk]
  unfold turnP
  rw [List.reverse_cons, List.map_append]
  rfl
theorem bal_err (v : Value) (l : List (Int × Int × Int)) (a u : Int) (w : World) (hl : ReadsP w v l) (h : linE l ≠ 0) : Calls Try.prog 11 #[v, .int .i64 a, .int .i64 u] w fun e w' => e = .returned (.tuple #[.int .i64 0, .int .i64 (linE l)]) ∧ Kpt w w' := by
  refine (balance_any v l a u w hl).mono ?_
  rintro e w' ⟨rfl, g⟩
  have hE : balE l a u = linE l := by unfold balE; rw [if_pos h]
  have hR : balR l a u = 0 := by unfold balR; rw [if_neg (by rw [hE]; exact h)]
  exact ⟨by rw [hE, hR], g.kpt⟩
theorem balE_bd (l : List (Int × Int × Int)) (a u : Int) : 0 ≤ balE l a u ∧ balE l a u ≤ 4 := by
  unfold balE
  have := lin_bd l
  split
  · exact this
  · split <;> omega

end Go.Proofs.Ytcpfldlcocencaa
