/-
  Merged: BookJ, BookK, BookL, BookM, BookN, BookO.
-/
import Derived.Test.YtgccipmeiceonaaGreatMa12
import Derived.Shelf.SlicesE.Clone
import Derived.Shelf.SlicesQ.Reverse
import Derived.Test.YtgccipmeiceonaaGreatMa23
-- BookJ
namespace Go.Proofs.YtgccipmeiceonaaGreat
open Go.RowKit Go.Sort Go.Lib
set_option linter.unusedVariables false

/-- what Post answers: R and E -/
def PostRes (b l R : List (Int × Int × Int)) (E : Int) : Prop :=
  (linE b ≠ 0 ∧ E = linE b ∧ R = []) ∨ (linE b = 0 ∧ chkE l ≠ 0 ∧ E = chkE l ∧ R = []) ∨
  (linE b = 0 ∧ chkE l = 0 ∧ ((E = 8 ∧ R = [] ∧ ∃ a u, amtB (sumAt (b ++ l) a u) = false) ∨
    ((∀ a u, amtB (sumAt (b ++ l) a u) = true) ∧ ∃ L, IsBook L (b ++ l) ∧ ((400 < L.length ∧ E = 2 ∧ R = []) ∨ (L.length ≤ 400 ∧ E = 0 ∧ R = L)))))
def PostEnd (w : World) (b l : List (Int × Int × Int)) (e : Ending) (w' : World) : Prop :=
  Kpt w w' ∧ ∃ R E v, PostRes b l R E ∧ OwnsP w' w.heap.size v R ∧ e = .returned (.tuple #[v, .int .i64 E])

theorem merge_own (w : World) (base : Nat) (v : Value) (s : List (Int × Int × Int)) (h : OwnsP w base v s) (h0 : 0 < s.length) (hm : s.length ≤ 4096) (hp : ∀ x ∈ s, ptB x = true) (hs : s.Pairwise (fun x y => plc x ≤ plc y)) : Calls Tryz.prog 83 #[v] w (MergeRes w s) := by
  rcases (h.reads (inP_of hp)).cell with ⟨rfl, _⟩ | ⟨_, b, off, cap, rfl, hc⟩
  · simp at h0
  · exact merge_some b off cap s w hm hp hs hc

set_option maxRecDepth 100000 in
set_option maxHeartbeats 2000000 in
theorem post_lin (v u : Value) (b l : List (Int × Int × Int)) (w : World) (hb : ReadsP w v b) (h : linE b ≠ 0) :
    Calls Tryz.prog 29 #[v, u] w (PostEnd w b l) := by
  have LB := Lib.hid (lines_any v b w hb)
  have HP : Hid (PostRes b l [] (linE b)) := .inl ⟨h, rfl, rfl⟩
  have q : (linE b != 0) = true := bne_iff_ne.2 h
  clear h hb
  generalize linE b = E at *
  go_enter Tryz.func29, Tryz.ntmps29
  go_wp2_with (go_at_call 33; (with_reducible refine LB.out.mono ?_); rintro e w1 ⟨rfl, g1⟩)
  go_ret2
  exact ⟨g1.kpt, [], E, _, HP.out, OwnsP.nil _ _, rfl⟩

set_option maxRecDepth 100000 in
set_option maxHeartbeats 2000000 in
theorem post_chk (v u : Value) (b l : List (Int × Int × Int)) (w : World) (hb : ReadsP w v b) (hl : ReadsP w u l) (h0 : linE b = 0) (h : chkE l ≠ 0) :
    Calls Tryz.prog 29 #[v, u] w (PostEnd w b l) := by
  have LB := Lib.hid (h0 ▸ lines_any v b w hb)
  have CB := Lib.hid (fun w' (g : Grew w w') => bookCheck_any u l w' (hl.grew g))
  have HP : Hid (PostRes b l [] (chkE l)) := .inr (.inl ⟨h0, h, rfl, rfl⟩)
  have q : (chkE l != 0) = true := bne_iff_ne.2 h
  clear h hb hl h0
  generalize chkE l = E at *
  go_enter Tryz.func29, Tryz.ntmps29
  go_wp2_with (first
    | (go_at_call 33; (with_reducible refine LB.out.mono ?_); rintro e w1 ⟨rfl, g1⟩)
    | (go_at_call 10; (with_reducible refine (CB.out _ g1).mono ?_); rintro e w2 ⟨rfl, g2⟩))
  go_ret2
  exact ⟨(gtr g1 g2).kpt, [], E, _, HP.out, OwnsP.nil _ _, rfl⟩

theorem own_some {w : World} {base : Nat} {v : Value} {ps : List (Int × Int × Int)} (h : OwnsP w base v ps) (h0 : 0 < ps.length) : ∃ blk cap, v = .slice (some ⟨blk, 0, none⟩) ps.length cap ∧ base ≤ blk := by
  rcases h.2 with ⟨_, e⟩ | ⟨k, cap, cur, e, hk, _⟩
  · omega
  · exact ⟨k, cap, e, hk⟩
theorem sort_n (w : World) (base blk cap n : Nat) (ps : List (Int × Int × Int)) (hn : ps.length = n) (h : OwnsP w base (.slice (some ⟨blk, 0, none⟩) n cap) ps) (hm : n ≤ 100000) :
    Calls Tryz.prog 79 #[.slice (some ⟨blk, 0, none⟩) n cap, .func (.func 80) #[] #[]] w fun e w' =>
      e = .returned (.tuple #[]) ∧ ∃ qs : List (Int × Int × Int), qs.Perm ps ∧ qs.Pairwise (fun x y => keyP x ≤ keyP y) ∧ OwnsP w' base (.slice (some ⟨blk, 0, none⟩) n cap) qs ∧ w.grownBy w' (some blk) := by
  subst hn
  refine (sort_run w base blk cap ps h hm).mono ?_
  rintro e w' ⟨he, qs, hp, hs, ho, hg⟩
  rw [hp.length_eq] at ho
  exact ⟨he, qs, hp, hs, ho, hg⟩
theorem perm_pt {s t : List (Int × Int × Int)} (h : s.Perm t) (ht : ∀ x ∈ t, ptB x = true) : ∀ x ∈ s, ptB x = true := fun x hx => ht x (h.mem_iff.1 hx)
theorem keys_plc {s : List (Int × Int × Int)} (h : ∀ x ∈ s, ptB x = true) (hs : s.Pairwise (fun x y => keyP x ≤ keyP y)) : s.Pairwise (fun x y => plc x ≤ plc y) :=
  hs.imp_of_mem fun {a b} ha hb q => by rw [key_plc (h a ha), key_plc (h b hb)] at q; exact q
theorem OwnsP.base {w : World} {B B' : Nat} {v : Value} {ps : List (Int × Int × Int)} (h : OwnsP w B v ps) (hb : B' ≤ B) : OwnsP w B' v ps := by
  obtain ⟨h1, h2⟩ := h
  refine ⟨h1, ?_⟩
  rcases h2 with h2 | ⟨k, cap, cur, e, hk, r⟩
  · exact .inl h2
  · exact .inr ⟨k, cap, cur, e, Nat.le_trans hb hk, r⟩
theorem OwnsP.form {w : World} {B : Nat} {v : Value} {ps : List (Int × Int × Int)} (h : OwnsP w B v ps) : ∃ a cap, v = .slice a ps.length cap := by
  rcases h.2 with ⟨e, e'⟩ | ⟨k, cap, cur, e, _⟩
  · exact ⟨none, 0, by rw [e, e']⟩
  · exact ⟨_, cap, e⟩
theorem kpt_sorted {w w2 w3 w4 : World} {o : Obj} {blk : Nat} (h3 : Kpt w w3) (hg : w3.grownBy w4 (some blk)) (hb : (w2.alloc o).heap.size ≤ blk) (h2 : Kpt w w2) : Kpt w w4 :=
  Below.grown h3 hg h3.size fun k hk => by
    injection hk with hk
    subst hk
    have := h2.size
    rw [World.size_alloc] at hb
    omega
theorem merge_post {b l s : List (Int × Int × Int)} {w w' : World} {e : Ending} (hp : s.Perm (b ++ l)) (h0 : linE b = 0) (h1 : chkE l = 0) (h : MergeRes w s e w') :
    Kpt w w' ∧ ((PostRes b l [] 8 ∧ e = .returned (.tuple #[.slice none 0 0, .int .i64 8])) ∨ (∃ L a cap, (400 < L.length → PostRes b l [] 2) ∧ (L.length ≤ 400 → PostRes b l L 0) ∧ L.length ≤ s.length ∧ OwnsP w' w.heap.size (.slice a L.length cap) L ∧ e = .returned (.tuple #[.slice a L.length cap, .int .i64 0]))) := by
  obtain ⟨hk, ⟨a, u, hbad, rfl⟩ | ⟨L, v, hB, hok, hf, ho, rfl⟩⟩ := h
  · exact ⟨hk, .inl ⟨.inr (.inr ⟨h0, h1, .inl ⟨rfl, rfl, a, u, by rw [← sumAt_perm hp]; exact hbad⟩⟩), rfl⟩⟩
  · have hB' : IsBook L (b ++ l) := ⟨hB.strict, fun p => by rw [hB.mem, sumAt_perm hp]⟩
    have hok' : ∀ a u, amtB (sumAt (b ++ l) a u) = true := fun a u => by rw [← sumAt_perm hp]; exact hok a u
    obtain ⟨a, cap, rfl⟩ := ho.form
    exact ⟨hk, .inr ⟨L, a, cap, fun g => .inr (.inr ⟨h0, h1, .inr ⟨hok', L, hB', .inl ⟨g, rfl, rfl⟩⟩⟩), fun g => .inr (.inr ⟨h0, h1, .inr ⟨hok', L, hB', .inr ⟨g, rfl, rfl⟩⟩⟩), hf, ho, rfl⟩⟩

set_option maxRecDepth 100000 in
set_option maxHeartbeats 4000000 in
theorem post_ok (v u : Value) (b l : List (Int × Int × Int)) (w : World) (hb : ReadsP w v b) (hl : ReadsP w u l) (h0 : linE b = 0) (h1 : chkE l = 0) :
    Calls Tryz.prog 29 #[v, u] w (PostEnd w b l) := by
  have LB := Lib.hid (h0 ▸ lines_any v b w hb)
  have CB := Lib.hid (fun w' (g : Grew w w') => (h1 ▸ bookCheck_any u l w' (hl.grew g) : Calls Tryz.prog 10 #[u] w' fun e w'' => e = .returned (.int .i64 0) ∧ Grew w' w''))
  obtain ⟨lb, sb, -⟩ := lin_0 h0
  obtain ⟨ll0, ll, pl, -⟩ := chk_0 h1
  have RB := Lib.hid hb
  have RL := Lib.hid hl
  have PT : Hid (∀ x ∈ b ++ l, ptB x = true) := fun x hx => by
    rcases List.mem_append.1 hx with h | h
    · exact strict_pt sb x h
    · exact pl x h
  have H0 := Lib.hid h0; have H1 := Lib.hid h1
  obtain ⟨a1, c1, rfl, -⟩ := id hb
  obtain ⟨a2, c2, rfl, -⟩ := id hl
  have hlen : (b ++ l).length = b.length + l.length := List.length_append
  have HLEN := Lib.hid hlen
  clear hb hl h0 h1 sb pl hlen
  go_enter Tryz.func29, Tryz.ntmps29
  go_wp2_with (first
    | (go_at_call 33; (with_reducible refine LB.out.mono ?_); rintro e w1 ⟨rfl, g1⟩)
    | (go_at_call 10; (with_reducible refine (CB.out _ g1).mono ?_); rintro e w2 ⟨rfl, g2⟩; have G2 := Lib.hid (gtr g1 g2).kpt; have B2 := Lib.hid (Blk.made w2 #[.slice a1 b.length c1, .slice a2 l.length c2] 23))
    | (go_at_call 78; (with_reducible refine (concat2 _ w2.heap.size a1 a2 c1 c2 b l (B2.out.cell 0) (B2.out.cell 1) (RB.out.kpt (G2.out.alloc _)) (RL.out.kpt (G2.out.alloc _)) (by omega) (by omega)).mono ?_); rintro e w3 ⟨⟨va, rfl, ho⟩, k3⟩; obtain ⟨blk, cp, hv, hblk⟩ := own_some ho (by rw [HLEN.out]; omega); rw [HLEN.out] at hv; subst hv; have HO := Lib.hid ho; have G3 := Lib.hid (ktr (G2.out.alloc _) k3); have HB := Lib.hid hblk; clear ho k3 hblk)
    | (go_at_call 79; (with_reducible refine (sort_n _ _ blk cp (b.length + l.length) (b ++ l) HLEN.out HO.out (by omega)).mono ?_); rintro e w4 ⟨rfl, qs, hp, hs, ho, hg⟩; have HQ := Lib.hid ho; have HPE := Lib.hid hp; have HSO := Lib.hid hs; have HG := Lib.hid hg; clear ho hp hs hg; have G4 := Lib.hid (kpt_sorted G3.out HG.out HB.out G2.out); have PQ := Lib.hid (perm_pt HPE.out PT.out))
    | (go_at_call 83; (with_reducible refine (merge_own _ _ _ qs HQ.out (by rw [HPE.out.length_eq, HLEN.out]; omega) (by rw [HPE.out.length_eq, HLEN.out]; omega) PQ.out (keys_plc PQ.out HSO.out)).mono ?_); intro e w5 hmr; obtain ⟨k5, hres⟩ := merge_post HPE.out H0.out H1.out hmr; have G5 := Lib.hid (ktr G4.out k5); clear hmr k5; rcases hres with ⟨hpr, rfl⟩ | ⟨L, a5, c5, r1, r2, r3, ho5, rfl⟩))
  · go_ret2
    exact ⟨G5.out, [], 8, _, hpr, OwnsP.nil _ _, rfl⟩
  all_goals
    go_ret2
    first
      | exact ⟨G5.out, [], 2, _, r1 (by omega), OwnsP.nil _ _, rfl⟩
      | exact ⟨G5.out, L, 0, _, r2 (by omega), ho5.base G4.out.size, rfl⟩

theorem post_any (v u : Value) (b l : List (Int × Int × Int)) (w : World) (hb : ReadsP w v b) (hl : ReadsP w u l) : Calls Tryz.prog 29 #[v, u] w (PostEnd w b l) := by
  by_cases h0 : linE b = 0
  · by_cases h1 : chkE l = 0
    · exact post_ok v u b l w hb hl h0 h1
    · exact post_chk v u b l w hb hl h0 h1
  · exact post_lin v u b l w hb h0

end Go.Proofs.YtgccipmeiceonaaGreat

-- BookK
namespace Go.Proofs.YtgccipmeiceonaaGreat
open Go.RowKit Go.Sort Go.Lib
set_option linter.unusedVariables false

theorem clone_run (v : Value) (ps : List (Int × Int × Int)) (w : World) (h : ReadsP w v ps) (h0 : 0 < ps.length) (hm : ps.length ≤ 100000) :
    Calls Tryz.prog 85 #[v] w fun e w' => ∃ blk cap, e = .returned (.slice (some ⟨blk, 0, none⟩) ps.length cap) ∧ OwnsP w' w.heap.size (.slice (some ⟨blk, 0, none⟩) ps.length cap) ps ∧ Kpt w w' := by
  obtain ⟨i0, hi, hz0, hz1, hz2⟩ := info_parts Tryz.infoPost
  rcases h.cell with ⟨rfl, _⟩ | ⟨_, b, off, cap, rfl, hc⟩
  · simp at h0
  · have zE : ∀ w, (Go.sizeOf 49).run Tryz.prog w = .ok 3 w := fun w => by kernel_rfl
    refine (AnyE.slices_Clone Tryz.cloP i0 _ 3 24 hi hz0 hz1 hz2 rfl (by decide) zE b off ps.length cap (flatP ps) w (flatP_len ps) h.len (by omega) ?_ (flatP_one ps)).mono ?_
    · intro j u hu
      have hj : j < ps.length * 3 := by
        have := (List.getElem?_eq_some_iff.1 hu).1
        rwa [flatP_len] at this
      obtain ⟨q, r, hr, rfl⟩ : ∃ q r, r < 3 ∧ j = q * 3 + r := ⟨j / 3, j % 3, by omega, by omega⟩
      have hq : q < ps.length := by omega
      obtain ⟨h1, h2, h3⟩ := hc q hq
      obtain ⟨e0, e1, e2⟩ := flatP_at ps q hq
      rw [← Nat.add_assoc]
      rcases (show r = 0 ∨ r = 1 ∨ r = 2 by omega) with rfl | rfl | rfl
      · rw [Nat.add_zero] at hu ⊢; rw [e0] at hu; rw [← hu]; exact h1
      · rw [e1] at hu; rw [← hu]; exact h2
      · rw [e2] at hu; rw [← hu]; exact h3
    · rintro e w' ⟨v', rfl, ho, _, hb⟩
      obtain ⟨blk, cap', rfl, _⟩ := own_some (ps := ps) ho h0
      exact ⟨blk, cap', rfl, ho, hb⟩

theorem reverse_run (w : World) (base blk cap : Nat) (ps : List (Int × Int × Int)) (h : OwnsP w base (.slice (some ⟨blk, 0, none⟩) ps.length cap) ps) (hm : ps.length ≤ 100000) :
    Calls Tryz.prog 86 #[.slice (some ⟨blk, 0, none⟩) ps.length cap] w fun e w' =>
      e = .returned (.tuple #[]) ∧ OwnsP w' base (.slice (some ⟨blk, 0, none⟩) ps.length cap) ps.reverse ∧ w.grownBy w' (some blk) := by
  rcases h.2 with ⟨e, _⟩ | ⟨k, cap', cur, e, hk, hh, hc, hmx, hs, ht⟩
  · cases e
  · injection e with e1 e2 e3
    injection e1 with e1
    injection e1 with e1 _ _
    subst e1; subst e3
    have aE : ∀ w, (isAgg 49).run Tryz.prog w = .ok true w := fun w => by kernel_rfl
    have zE : ∀ w, (Go.sizeOf 49).run Tryz.prog w = .ok 3 w := fun w => by kernel_rfl
    refine (AnyQ.slices_Reverse Tryz.revP 3 aE zE encP (fun _ => rfl) (fun x v hv => by simp [encP] at hv; rcases hv with rfl | rfl | rfl <;> rfl) blk 0 cap ps.toArray w (holds_own hh ht) (by simp; omega)).mono ?_
    rintro e w' ⟨rfl, n, rfl⟩
    have er : ps.toArray.reverse = ps.reverse.toArray := by simp
    have hp := heap_put (n := n) (os := #[]) (flatP ps.reverse).toArray hh
    have hg := grown_put (w := w) (g := blk) (n := n) (os := #[]) (flatP ps.reverse).toArray
    rw [grow_empty] at hp hg
    have ew : putRowK encP 3 (Sort.ahead w n) blk 0 ps.toArray.reverse = putRow id (Sort.ahead w n) blk 0 (flatP ps.reverse).toArray := by
      rw [er]; unfold putRowK; rw [flatK_eq]
    rw [ew]
    refine ⟨rfl, ⟨by rw [flatP_len, List.length_reverse], .inr ⟨blk, cap, _, ?_, hk, hp, ?_, hmx, by simp [putCells, hs], ?_⟩⟩, hg⟩
    · rw [List.length_reverse]
    · rw [List.length_reverse]; exact hc
    · have := take_put cur (flatP ps.reverse) (by rw [flatP_len, hs, List.length_reverse]; omega)
      rw [flatP_len] at this
      exact this

end Go.Proofs.YtgccipmeiceonaaGreat

-- BookL
namespace Go.Proofs.YtgccipmeiceonaaGreat
open Go.RowKit Go.Sort Go.Lib
set_option linter.unusedVariables false

/-- the opposite posting -/
def negP (p : Int × Int × Int) : Int × Int × Int := (p.1, p.2.1, -p.2.2)
def turnP (l : List (Int × Int × Int)) : List (Int × Int × Int) := l.reverse.map negP

theorem flatP_set (ps : List (Int × Int × Int)) (k : Nat) (hk : k < ps.length) (x : Int) : (flatP ps).set (k * 3 + 2) (.int .i64 x) = flatP (ps.set k ((ps.getD k default).1, (ps.getD k default).2.1, x)) := by
  induction ps generalizing k with
  | nil => simp at hk
  | cons p l ih =>
    have e : ∀ q m, flatP (q :: m) = .int .i64 q.1 :: .int .i64 q.2.1 :: .int .i64 q.2.2 :: flatP m := fun _ _ => rfl
    cases k with
    | zero => rw [e]; rfl
    | succ k =>
      have := ih k (by simpa using hk)
      rw [e, show (k + 1) * 3 + 2 = (k * 3 + 2) + 1 + 1 + 1 by omega]
      simp only [List.set_cons_succ, this, List.getD_cons_succ]
      rw [e]
theorem OwnsP.put {w : World} {base blk n cap : Nat} {ps : List (Int × Int × Int)} (h : OwnsP w base (.slice (some ⟨blk, 0, none⟩) n cap) ps) (k : Nat) (hk : k < ps.length) (x : Int) :
    OwnsP (w.setCell ⟨blk, k * 3 + 2, none⟩ (.int .i64 x)) base (.slice (some ⟨blk, 0, none⟩) n cap) (ps.set k ((ps.getD k default).1, (ps.getD k default).2.1, x)) := by
  rcases h.2 with ⟨e, _⟩ | ⟨g, cap', cur, e, hg, hh, hc, hm, hs, ht⟩
  · cases e
  · injection e with e1 e2 e3
    injection e1 with e1
    injection e1 with e1 _ _
    subst e1; subst e3; subst e2
    refine ⟨by rw [flatP_len], .inr ⟨blk, cap, cur.setIfInBounds (k * 3 + 2) (.int .i64 x), by rw [List.length_set], hg, ?_, by rw [List.length_set]; exact hc, hm, by simpa using hs, ?_⟩⟩
    · simp [World.setCell, Array.getElem?_modify, hh]
    · rw [List.length_set, Array.toList_setIfInBounds, List.take_set, ht, flatP_set ps k hk]
theorem OwnsP.at_ {w : World} {base blk n cap : Nat} {ps : List (Int × Int × Int)} (h : OwnsP w base (.slice (some ⟨blk, 0, none⟩) n cap) ps) (k : Nat) (hk : k < ps.length) :
    PtAt w blk (k * 3) (ps.getD k default) ∧ w.frozen? ⟨blk, k * 3 + 2, none⟩ = false := by
  rcases h.2 with ⟨e, _⟩ | ⟨g, cap', cur, e, hg, hh, hc, hm, hs, ht⟩
  · cases e
  · injection e with e1 e2 e3
    injection e1 with e1
    injection e1 with e1 _ _
    subst e1; subst e3; subst e2
    have hcc : ∀ i, w.cell? ⟨blk, i, none⟩ = cur[i]? := fun i => cell_of_row w blk i cur _ (0, 0) hh
    have hi : ∀ i, i < ps.length * 3 → cur[i]? = (flatP ps)[i]? := fun i hi => by
      rw [← ht, List.getElem?_take_of_lt (by omega), ← Array.getElem?_toList]
    obtain ⟨e0, e1, e2⟩ := flatP_at ps k hk
    exact ⟨⟨by rw [hcc, hi _ (by omega), e0], by rw [hcc, hi _ (by omega), e1], by rw [hcc, hi _ (by omega), e2]⟩, by simp [World.frozen?, hh]⟩

/-- turned so far -/
def halfT (l : List (Int × Int × Int)) (k : Nat) : List (Int × Int × Int) := (l.reverse.take k).map negP ++ l.reverse.drop k
theorem halfT_len (l : List (Int × Int × Int)) (k : Nat) : (halfT l k).length = l.length := by
  unfold halfT; simp; omega
theorem halfT_at (l : List (Int × Int × Int)) (k : Nat) (hk : k < l.length) : (halfT l k).getD k default = l.reverse.getD k default := by
  unfold halfT
  rw [List.getD_eq_getElem?_getD, List.getD_eq_getElem?_getD, List.getElem?_append_right (by simp; omega)]
  simp [show min k l.length = k by omega]
theorem halfT_set (l : List (Int × Int × Int)) (k : Nat) (hk : k < l.length) : (halfT l k).set k (negP (l.reverse.getD k default)) = halfT l (k + 1) := by
  unfold halfT
  have hr : k < l.reverse.length := by simpa using hk
  rw [List.take_succ_eq_append_getElem hr, List.map_append, List.drop_eq_getElem_cons hr, List.set_append, if_neg (by simp; omega)]
  have : k - ((l.reverse.take k).map negP).length = 0 := by simp; omega
  rw [this, List.set_cons_zero, List.getD_eq_getElem?_getD, List.getElem?_eq_getElem hr]
  simp

theorem kpt_grown' {w w1 w2 w3 : World} {blk n cap : Nat} {ps : List (Int × Int × Int)} (h : Kpt w w2) (hg : w2.grownBy w3 (some blk)) (ho : OwnsP w2 w1.heap.size (.slice (some ⟨blk, 0, none⟩) n cap) ps) (h1 : w.heap.size ≤ w1.heap.size) : Kpt w w3 :=
  Below.grown h hg h.size fun k hk => by
    injection hk with hk
    subst hk
    have := ho.ge blk rfl
    omega
def TurnEnd (w : World) (l : List (Int × Int × Int)) (e : Ending) (w' : World) : Prop :=
  Kpt w w' ∧ ((chkE l ≠ 0 ∧ e = .returned (.tuple #[.slice none 0 0, .int .i64 (chkE l)])) ∨ (chkE l = 0 ∧ ∃ a cap, OwnsP w' w.heap.size (.slice a l.length cap) (turnP l) ∧ e = .returned (.tuple #[.slice a l.length cap, .int .i64 0])))

theorem turn_bad (v : Value) (l : List (Int × Int × Int)) (w : World) (hl : ReadsP w v l) (h : chkE l ≠ 0) : Calls Tryz.prog 31 #[v] w (TurnEnd w l) := by
  have CB := Lib.hid (bookCheck_any v l w hl)
  have HH := Lib.hid h
  have q : (chkE l != 0) = true := bne_iff_ne.2 h
  clear h hl
  have HE : Hid (∃ E, chkE l = E) := ⟨_, rfl⟩
  go_enter Tryz.func31, Tryz.ntmps31
  go_wp2_with (go_at_call 10; (with_reducible refine CB.out.mono ?_); rintro e w1 ⟨rfl, g1⟩)
  go_ret2
  exact ⟨g1.kpt, .inl ⟨HH.out, rfl⟩⟩

theorem half_step {w : World} {base blk cap : Nat} {l : List (Int × Int × Int)} {k : Nat} (hk : k < l.length) (h : OwnsP w base (.slice (some ⟨blk, 0, none⟩) l.length cap) (halfT l k)) :
    OwnsP (w.setCell ⟨blk, k * 3 + 2, none⟩ (.int .i64 (-((halfT l k).getD k default).2.2))) base (.slice (some ⟨blk, 0, none⟩) l.length cap) (halfT l (k + 1)) := by
  have := h.put k (by rw [halfT_len]; exact hk) (-((halfT l k).getD k default).2.2)
  rw [halfT_at l k hk] at this ⊢
  rw [← halfT_set l k hk]
  exact this

set_option maxRecDepth 100000 in
set_option maxHeartbeats 2000000 in
theorem turn_ok (v : Value) (l : List (Int × Int × Int)) (w : World) (hl : ReadsP w v l) (h : chkE l = 0) : Calls Tryz.prog 31 #[v] w (TurnEnd w l) := by
  have CB := Lib.hid (h ▸ bookCheck_any v l w hl)
  obtain ⟨l0, l1, lp, -⟩ := chk_0 h
  have RL := Lib.hid hl
  have HH := Lib.hid h
  have LP := Lib.hid lp
  clear h hl lp
  go_enter Tryz.func31, Tryz.ntmps31
  go_wp2_with (first
    | (go_at_call 10; (with_reducible refine CB.out.mono ?_); rintro e w1 ⟨rfl, g1⟩)
    | (go_at_call 85; (with_reducible refine (clone_run v l _ (RL.out.grew g1) l0 (by omega)).mono ?_); rintro e w2 ⟨blk, cap, rfl, ho, k2⟩; have HO := Lib.hid ho; have K2 := Lib.hid (ktr g1.kpt k2); have S1 := Lib.hid g1.kpt.size; clear ho k2)
    | (go_at_call 86; (with_reducible refine (reverse_run _ _ blk cap l HO.out (by omega)).mono ?_); rintro e w3 ⟨rfl, ho3, hg3⟩; have HO3 := Lib.hid ho3; have K3 := Lib.hid (kpt_grown' K2.out hg3 HO.out S1.out); clear ho3 hg3))
  have Z1 := Lib.hid (show w.heap.size ≤ blk from Nat.le_trans S1.out (HO.out.ge blk rfl))
  go_loopw [18] (fun i wr => ∃ k : Nat, k ≤ l.length ∧ i = .int .i64 k ∧ Hid (OwnsP wr w.heap.size (.slice (some ⟨blk, 0, none⟩) l.length cap) (halfT l k)) ∧ Hid (Kpt w wr)) (fun i _ => l.length - (intOf i).toNat)
  case atStart => exact ⟨0, Nat.zero_le _, rfl, (by unfold Hid halfT; rw [List.take_zero, List.drop_zero]; exact HO3.out.base S1.out), K3.out⟩
  case round =>
    obtain ⟨k, hk, rfl, HW, HK⟩ := hrel
    by_cases hlt : k < l.length
    · obtain ⟨⟨c0, c1, c2⟩, f2⟩ := HW.out.at_ k (by rw [halfT_len]; exact hlt)
      have hx : ptB ((halfT l k).getD k default) = true := by
        rw [halfT_at l k hlt]
        exact LP.out _ (List.mem_reverse.1 (getP_mem (by simpa using hlt)))
      have hb := pt_t hx
      have HN := Lib.hid (fun (_ : True) => half_step hlt HW.out)
      generalize (halfT l k).getD k default = p at *
      obtain ⟨p0, p1, p2⟩ := p
      obtain ⟨-, -, -, -, -, n0, n1⟩ := hb
      simp only at c0 c1 c2 n0 n1
      clear hx
      go_wp2
      go_roundw
      case rel => exact ⟨k + 1, by omega, by go_num, HN.out trivial, HK.out.setCell Z1.out _⟩
      case measure => simp [intOf]; omega
    · obtain rfl : k = l.length := by omega
      have e : halfT l l.length = turnP l := by
        unfold halfT turnP
        rw [List.take_of_length_le (by simp), List.drop_eq_nil_of_le (by simp), List.append_nil]
      rw [e] at HW
      clear e
      go_wp2
      go_ret2
      exact ⟨HK.out, .inr ⟨HH.out, _, _, HW.out, rfl⟩⟩

theorem turn_any (v : Value) (l : List (Int × Int × Int)) (w : World) (hl : ReadsP w v l) : Calls Tryz.prog 31 #[v] w (TurnEnd w l) := by
  by_cases h : chkE l = 0
  · exact turn_ok v l w hl h
  · exact turn_bad v l w hl h

end Go.Proofs.YtgccipmeiceonaaGreat

-- BookM
namespace Go.Proofs.YtgccipmeiceonaaGreat
open Go.RowKit
set_option linter.unusedVariables false

/-- the amount of the first line of an account and a unit -/
def balF : List (Int × Int × Int) → Int → Int → Int
  | [], _, _ => 0
  | p :: l, a, u => if p.1 = a ∧ p.2.1 = u then p.2.2 else balF l a u
theorem bal_sum {b : Int} {l : List (Int × Int × Int)} (h : Strict b l) (a u : Int) : balF l a u = sumAt l a u := by
  induction l generalizing b with
  | nil => rfl
  | cons p l ih =>
    unfold balF sumAt
    by_cases hq : p.1 = a ∧ p.2.1 = u
    · rw [if_pos hq, if_pos hq]
      have : sumAt l a u = 0 := sumAt_none fun q hq' e => by
        have := strict_lo h.2.2 q hq'
        unfold plc at this
        rw [e.1, e.2, hq.1, hq.2] at this
        omega
      omega
    · rw [if_neg hq, if_neg hq, ih h.2.2]; omega
/-- what Balance answers -/
def balE (l : List (Int × Int × Int)) (a u : Int) : Int := if linE l ≠ 0 then linE l else if plB a u then 0 else 3
def balR (l : List (Int × Int × Int)) (a u : Int) : Int := if balE l a u = 0 then balF l a u else 0

def BalIs (l : List (Int × Int × Int)) (a u : Int) (w : World) (e : Ending) (w' : World) : Prop := e = .returned (.tuple #[.int .i64 (balR l a u), .int .i64 (balE l a u)]) ∧ Grew w w'

theorem balance_bad (v : Value) (l : List (Int × Int × Int)) (a u : Int) (w : World) (hl : ReadsP w v l) (h : linE l ≠ 0) : Calls Tryz.prog 30 #[v, .int .i64 a, .int .i64 u] w (BalIs l a u w) := by
  have LB := Lib.hid (lines_any v l w hl)
  have he : balE l a u = linE l := by unfold balE; rw [if_pos h]
  have HE := Lib.hid he
  have HR : Hid (balR l a u = 0) := by unfold Hid balR; rw [he, if_neg h]
  have q : (linE l != 0) = true := bne_iff_ne.2 h
  clear h hl he
  generalize linE l = E at *
  go_enter Tryz.func30, Tryz.ntmps30
  go_wp2_with (go_at_call 33; (with_reducible refine LB.out.mono ?_); rintro e w1 ⟨rfl, g1⟩)
  go_ret2
  exact ⟨ret_tup2 HR.out.symm HE.out.symm, g1⟩

theorem balance_rng (v : Value) (l : List (Int × Int × Int)) (a u : Int) (w : World) (hl : ReadsP w v l) (h : linE l = 0) (hp : plB a u = false) : Calls Tryz.prog 30 #[v, .int .i64 a, .int .i64 u] w (BalIs l a u w) := by
  have LB := Lib.hid (h ▸ lines_any v l w hl)
  have PB := Lib.hid (fun w => hp ▸ isPlace_any a u w)
  have he : balE l a u = 3 := by unfold balE; rw [if_neg (by simpa using h), hp]; rfl
  have HE := Lib.hid he
  have HR : Hid (balR l a u = 0) := by unfold Hid balR; rw [he, if_neg (by decide)]
  clear h hl he hp
  go_enter Tryz.func30, Tryz.ntmps30
  go_wp2_with (first
    | (go_at_call 33; (with_reducible refine LB.out.mono ?_); rintro e w1 ⟨rfl, g1⟩)
    | (go_at_call 84; (with_reducible refine (PB.out _).mono ?_); rintro e w2 ⟨rfl, rfl⟩))
  go_ret2
  exact ⟨ret_tup2 HR.out.symm HE.out.symm, g1⟩

theorem bal_here {p : Int × Int × Int} {l : List (Int × Int × Int)} {a u : Int} (h1 : p.1 = a) (h2 : p.2.1 = u) : balF (p :: l) a u = p.2.2 := by unfold balF; rw [if_pos ⟨h1, h2⟩]
theorem bal_next {p : Int × Int × Int} {l : List (Int × Int × Int)} {a u : Int} (h : ¬ (p.1 = a ∧ p.2.1 = u)) : balF (p :: l) a u = balF l a u := by rw [balF, if_neg h]

set_option maxHeartbeats 1000000 in
theorem balance_some (b off cap : Nat) (l : List (Int × Int × Int)) (a u : Int) (w : World) (hl : ReadsP w (.slice (some ⟨b, off, none⟩) l.length cap) l) (hc : ∀ j, j < l.length → PtAt w b (off + j * 3) (l.getD j default)) (h : linE l = 0) (hp : plB a u = true) :
    Calls Tryz.prog 30 #[.slice (some ⟨b, off, none⟩) l.length cap, .int .i64 a, .int .i64 u] w (BalIs l a u w) := by
  have LB := Lib.hid (h ▸ lines_any _ l w hl)
  have PB := Lib.hid (fun w => hp ▸ isPlace_any a u w)
  have he : balE l a u = 0 := by unfold balE; rw [if_neg (by simpa using h), hp]; rfl
  have HE := Lib.hid he
  have HR : Hid (balR l a u = balF l a u) := by unfold Hid balR; rw [he, if_pos rfl]
  have l4 := (lin_0 h).1
  have HC := Lib.hid hc
  clear h hl he hp hc
  go_enter Tryz.func30, Tryz.ntmps30
  go_wp2_with (first
    | (go_at_call 33; (with_reducible refine LB.out.mono ?_); rintro e w1 ⟨rfl, g1⟩; have G1 := Lib.hid g1; clear g1)
    | (go_at_call 84; (with_reducible refine (PB.out _).mono ?_); rintro e w2 ⟨rfl, rfl⟩))
  go_loopw [22] (fun i wr => ∃ k : Nat, k ≤ l.length ∧ i = .int .i64 k ∧ Hid (balF l a u = balF (l.drop k) a u) ∧ Hid (Grew w wr)) (fun i _ => l.length - (intOf i).toNat)
  case atStart => exact ⟨0, Nat.zero_le _, rfl, rfl, G1.out⟩
  case round =>
    obtain ⟨k, hk, rfl, HA, HG⟩ := hrel
    by_cases hlt : k < l.length
    · obtain ⟨c0, c1, c2⟩ := (HC.out k hlt).grew HG.out
      have hd := drop_getD hlt
      generalize l.getD k default = p at c0 c1 c2 hd
      have HD : Hid (balF l a u = balF (p :: l.drop (k + 1)) a u) := by unfold Hid; rw [HA.out, hd]
      clear hd
      obtain ⟨A, U, N⟩ := p
      simp only at c0 c1 c2
      by_cases h1 : A = a
      · by_cases h2 : U = u
        · have HX := Lib.hid (bal_here (p := (A, U, N)) (l := l.drop (k + 1)) h1 h2)
          have q1 : (A == a) = true := beq_iff_eq.2 h1
          have q2 : (U == u) = true := beq_iff_eq.2 h2
          clear h1 h2
          go_wp2
          go_ret2
          exact ⟨ret_tup2 (by rw [HR.out, HD.out, HX.out]) HE.out.symm, HG.out.alloc _ _⟩
        · have HX := Lib.hid (bal_next (p := (A, U, N)) (l := l.drop (k + 1)) (a := a) (u := u) (fun q => h2 q.2))
          have q1 : (A == a) = true := beq_iff_eq.2 h1
          have q2 : (U == u) = false := beq_eq_false_iff_ne.2 h2
          clear h1 h2
          go_wp2
          go_roundw
          case rel => exact ⟨k + 1, by omega, by go_num, by unfold Hid; rw [HD.out, HX.out], HG.out.alloc _ _⟩
          case measure => simp [intOf]; omega
      · have HX := Lib.hid (bal_next (p := (A, U, N)) (l := l.drop (k + 1)) (a := a) (u := u) (fun q => h1 q.1))
        have q1 : (A == a) = false := beq_eq_false_iff_ne.2 h1
        clear h1
        go_wp2
        go_roundw
        case rel => exact ⟨k + 1, by omega, by go_num, by unfold Hid; rw [HD.out, HX.out], HG.out.alloc _ _⟩
        case measure => simp [intOf]; omega
    · have hd : l.drop k = [] := List.drop_eq_nil_of_le (by omega)
      have HZ : Hid (balF l a u = 0) := by unfold Hid; rw [HA.out, hd]; rfl
      clear hd
      go_wp2
      go_ret2
      exact ⟨ret_tup2 (by rw [HR.out, HZ.out]) HE.out.symm, HG.out⟩

theorem balance_none (x : Option Addr) (cap : Nat) (hx : x = none → cap = 0) (a u : Int) (w : World) (hp : plB a u = true) : Calls Tryz.prog 30 #[.slice x 0 cap, .int .i64 a, .int .i64 u] w (BalIs [] a u w) := by
  have LB := Lib.hid (lines_none x cap w)
  have PB := Lib.hid (fun w => hp ▸ isPlace_any a u w)
  have he : balE [] a u = 0 := by unfold balE; rw [if_neg (by decide), hp]; rfl
  have HE := Lib.hid he
  have HR : Hid (balR [] a u = 0) := by unfold Hid balR; rw [he, if_pos rfl]; rfl
  clear he hp hx
  go_enter Tryz.func30, Tryz.ntmps30
  go_wp2_with (first
    | (go_at_call 33; (with_reducible refine LB.out.mono ?_); rintro e w1 ⟨rfl, g1⟩)
    | (go_at_call 84; (with_reducible refine (PB.out _).mono ?_); rintro e w2 ⟨rfl, rfl⟩))
  go_loop [22] (fun i => i = .int .i64 0) (fun _ => 0)
  case atStart => exact rfl
  case round =>
    obtain rfl := hrel
    go_wp2
    go_ret2
    exact ⟨ret_tup2 HR.out.symm HE.out.symm, g1⟩

theorem balance_any (v : Value) (l : List (Int × Int × Int)) (a u : Int) (w : World) (hl : ReadsP w v l) : Calls Tryz.prog 30 #[v, .int .i64 a, .int .i64 u] w (BalIs l a u w) := by
  by_cases h : linE l = 0
  · cases hp : plB a u with
    | false => exact balance_rng v l a u w hl h hp
    | true =>
      have hl0 := hl
      obtain ⟨x, c, e, hx, -⟩ := id hl
      rcases hl.cell with ⟨rfl, a', cap, rfl⟩ | ⟨_, b, off, cap, rfl, hc⟩
      · injection e with e1 e2 e3
        subst e1; subst e3
        exact balance_none _ _ hx a u w hp
      · exact balance_some b off cap l a u w hl0 hc h hp
  · exact balance_bad v l a u w hl h

end Go.Proofs.YtgccipmeiceonaaGreat

-- BookN
namespace Go.Proofs.YtgccipmeiceonaaGreat
open Go.RowKit
set_option linter.unusedVariables false

theorem post_neq (a b c d e f : Int) (w : World) : (binOp .neq 49 (.agg #[.int .i64 a, .int .i64 b, .int .i64 c]) (.agg #[.int .i64 d, .int .i64 e, .int .i64 f])).run Tryz.prog w = .ok (.bool (!decide ((a, b, c) = (d, e, f)))) w := by
  have u3 := Tryz.underlying3
  have hS : Tryz.prog.underlying 49 = some (.struct (Tryz.prog.fieldsOf 49)) := by kernel_rfl
  have hp : Tryz.prog.stoodInHeld 49 = false := by kernel_rfl
  have a3 : ∀ w, (isAgg 3).run Tryz.prog w = .ok false w := fun w => by kernel_rfl
  have h : ∀ w, (Op.equalIn (9999 + 1) 49 (.agg #[.int .i64 a, .int .i64 b, .int .i64 c]) (.agg #[.int .i64 d, .int .i64 e, .int .i64 f])).run Tryz.prog w = .ok (decide ((a, b, c) = (d, e, f))) w := fun w => by
    rw [run_equalIn_agg w 9999 49 _ _ hS hp]
    simp only [Program.fieldsOf, Tryz.underlying49]
    go_simp
    by_cases h1 : a = d <;> by_cases h2 : b = e <;> by_cases h3 : c = f <;> simp [h1, h2, h3]
  simp only [binOp, Op.equal, Op.maxDepth, Sem.run_bind]
  rw [show (10000 : Nat) = 9999 + 1 from rfl, h]
  simp

theorem same_len (a1 a2 : Option Addr) (n1 n2 c1 c2 : Nat) (w : World) (h : n1 ≠ n2) : Calls Tryz.prog 9 #[.slice a1 n1 c1, .slice a2 n2 c2] w fun e w' => e = .returned (.bool false) ∧ Kpt w w' := by
  have q : ((n1 : Int) != (n2 : Int)) = true := bne_iff_ne.2 (by omega)
  go_enter Tryz.func9, Tryz.ntmps9
  go_wp2
  go_ret
  exact ⟨rfl, Kpt.refl _⟩

theorem same_none (a1 a2 : Option Addr) (c1 c2 : Nat) (w : World) : Calls Tryz.prog 9 #[.slice a1 0 c1, .slice a2 0 c2] w fun e w' => e = .returned (.bool true) ∧ Kpt w w' := by
  go_enter Tryz.func9, Tryz.ntmps9
  go_wp2
  go_loop [5] (fun i => i = .int .i64 0) (fun _ => 0)
  case atStart => exact rfl
  case round =>
    obtain rfl := hrel
    go_wp2
    go_ret
    exact ⟨rfl, Kpt.refl _⟩

set_option maxHeartbeats 1000000 in
theorem same_some (b1 o1 c1 b2 o2 c2 : Nat) (ps : List (Int × Int × Int)) (w : World) (hm : ps.length ≤ maxLen) (h1 : ∀ j, j < ps.length → PtAt w b1 (o1 + j * 3) (ps.getD j default)) (h2 : ∀ j, j < ps.length → PtAt w b2 (o2 + j * 3) (ps.getD j default)) :
    Calls Tryz.prog 9 #[.slice (some ⟨b1, o1, none⟩) ps.length c1, .slice (some ⟨b2, o2, none⟩) ps.length c2] w fun e w' => e = .returned (.bool true) ∧ Kpt w w' := by
  unfold maxLen at hm
  have H1 := Lib.hid h1; have H2 := Lib.hid h2
  clear h1 h2
  go_enter Tryz.func9, Tryz.ntmps9
  go_wp2
  go_loopw [5] (fun i wr => ∃ k : Nat, k ≤ ps.length ∧ i = .int .i64 k ∧ Hid (Kpt w wr)) (fun i _ => ps.length - (intOf i).toNat)
  case atStart => exact ⟨0, Nat.zero_le _, rfl, Kpt.refl _⟩
  case round =>
    obtain ⟨k, hk, rfl, HK⟩ := hrel
    by_cases hlt : k < ps.length
    · obtain ⟨c0, c1, c2⟩ := (H1.out k hlt).kpt HK.out
      obtain ⟨d0, d1, d2⟩ := (H2.out k hlt).kpt HK.out
      generalize ps.getD k default = p at c0 c1 c2 d0 d1 d2
      obtain ⟨A, U, N⟩ := p
      simp only at c0 c1 c2 d0 d1 d2
      have qn := post_neq A U N A U N
      rw [decide_eq_true rfl, Bool.not_true] at qn
      have b0 : (0 : Int) ≤ (k : Int) := by omega
      have b1 : (k : Int) < (ps.length : Int) := by omega
      go_wp2
      go_quiet (fail)
      go_wp2
      go_roundw
      case rel => exact ⟨k + 1, by omega, by go_num, Kpt.drewN HK.out _⟩
      case measure => simp [intOf]; omega
    · go_wp2
      go_ret
      exact ⟨rfl, HK.out⟩

theorem same_any (v u : Value) (ps : List (Int × Int × Int)) (w : World) (h1 : ReadsP w v ps) (h2 : ReadsP w u ps) : Calls Tryz.prog 9 #[v, u] w fun e w' => e = .returned (.bool true) ∧ Kpt w w' := by
  have hm := h1.len
  rcases h1.cell with ⟨rfl, a, c, rfl⟩ | ⟨h0, b1, o1, c1, rfl, k1⟩
  · rcases h2.cell with ⟨_, a', c', rfl⟩ | ⟨h0, _⟩
    · exact same_none a a' c c' w
    · simp at h0
  · rcases h2.cell with ⟨e, _⟩ | ⟨_, b2, o2, c2, rfl, k2⟩
    · rw [e] at h0; simp at h0
    · exact same_some b1 o1 c1 b2 o2 c2 ps w hm k1 k2

end Go.Proofs.YtgccipmeiceonaaGreat

-- BookO
namespace Go.Proofs.YtgccipmeiceonaaGreat
open Go.RowKit
set_option linter.unusedVariables false

/-- what stands above nought -/
def posP (l : List (Int × Int × Int)) : List (Int × Int × Int) := l.filter fun p => decide (0 < p.2.2)
def posS (l : List (Int × Int × Int)) (u : Nat) : Int := unitS (posP l) u
theorem posP_pt {l : List (Int × Int × Int)} (h : ∀ p ∈ l, ptB p = true) : ∀ p ∈ posP l, ptB p = true := fun p hp => h p (List.mem_filter.1 hp).1
theorem posP_len (l : List (Int × Int × Int)) : (posP l).length ≤ l.length := List.length_filter_le _ _
theorem pos_step {ps : List (Int × Int × Int)} {k : Nat} (hk : k < ps.length) (h : 0 < (ps.getD k default).2.2) (x : Nat) : posS (ps.take (k + 1)) x = posS (ps.take k) x + (if (ps.getD k default).2.1 = (x : Int) then (ps.getD k default).2.2 else 0) := by
  unfold posS posP
  rw [List.take_succ_eq_append_getElem hk, List.filter_append, unitS_append, List.getD_eq_getElem?_getD, List.getElem?_eq_getElem hk] at *
  simp only [Option.getD_some] at h ⊢
  rw [List.filter_cons_of_pos (by simpa using h)]
  simp [unitS]
theorem pos_stay {ps : List (Int × Int × Int)} {k : Nat} (hk : k < ps.length) (h : ¬ 0 < (ps.getD k default).2.2) (x : Nat) : posS (ps.take (k + 1)) x = posS (ps.take k) x := by
  unfold posS posP
  rw [List.take_succ_eq_append_getElem hk, List.filter_append, unitS_append]
  rw [List.getD_eq_getElem?_getD, List.getElem?_eq_getElem hk] at h
  simp only [Option.getD_some] at h
  rw [List.filter_cons_of_neg (by simpa using h)]
  simp [unitS]
theorem okS_pos {ps : List (Int × Int × Int)} (h : ∀ p ∈ ps, ptB p = true) (hn : ps.length ≤ 4096) (k x : Nat) : okS (posS (ps.take k) x) := by
  have h1 := unitS_bd (l := posP (ps.take k)) (posP_pt fun z hz => h z (List.mem_of_mem_take hz)) x
  have h2 := posP_len (ps.take k)
  rw [List.length_take] at h2
  exact okS_mk (k := (posP (ps.take k)).length) (by omega) h1.1 h1.2

/-- what Trial answers -/
def TrialEnd (w : World) (l : List (Int × Int × Int)) (e : Ending) (w' : World) : Prop :=
  Grew w w' ∧ ((linE l ≠ 0 ∧ e = .returned (.tuple #[.slice none 0 0, .int .i64 (linE l)])) ∨
    (linE l = 0 ∧ (((∀ u, u < 21 → amtB (posS l u) = true) ∧ ∃ g, w.heap.size ≤ g ∧ e = .returned (.tuple #[.slice (some ⟨g, 0, none⟩) 21 21, .int .i64 0]) ∧ Row w' g ((List.range 21).map (posS l))) ∨
      ((∃ u, u < 21 ∧ amtB (posS l u) = false) ∧ e = .returned (.tuple #[.slice none 0 0, .int .i64 8])))))

theorem trial_bad (v : Value) (l : List (Int × Int × Int)) (w : World) (hl : ReadsP w v l) (h : linE l ≠ 0) : Calls Tryz.prog 32 #[v] w (TrialEnd w l) := by
  have LB := Lib.hid (lines_any v l w hl)
  have HH := Lib.hid h
  have q : (linE l != 0) = true := bne_iff_ne.2 h
  clear h hl
  go_enter Tryz.func32, Tryz.ntmps32
  go_wp2_with (go_at_call 33; (with_reducible refine LB.out.mono ?_); rintro e w1 ⟨rfl, g1⟩)
  go_ret2
  exact ⟨g1, .inl ⟨HH.out, rfl⟩⟩

theorem amts_trial {w w1 w' : World} {l : List (Int × Int × Int)} {e : Ending} (h : linE l = 0) (g : Grew w w1) (k : AmtsEnd w1 21 (posS l) e w') : TrialEnd w l e w' := by
  obtain ⟨g2, r⟩ := k
  refine ⟨gtr g g2, .inr ⟨h, ?_⟩⟩
  rcases r with ⟨a, b, hb, c, d⟩ | r
  · exact .inl ⟨a, b, Nat.le_trans g.below.size hb, c, d⟩
  · exact .inr r

set_option maxHeartbeats 4000000 in
set_option maxRecDepth 100000 in
theorem trial_some (b off cap : Nat) (ps : List (Int × Int × Int)) (w : World) (hl : ReadsP w (.slice (some ⟨b, off, none⟩) ps.length cap) ps) (h : linE ps = 0) (hc : ∀ j, j < ps.length → PtAt w b (off + j * 3) (ps.getD j default)) :
    Calls Tryz.prog 32 #[.slice (some ⟨b, off, none⟩) ps.length cap] w (TrialEnd w ps) := by
  have LB := Lib.hid (h ▸ lines_any _ ps w hl)
  obtain ⟨hm, hs, -⟩ := lin_0 h
  have HC := Lib.hid hc
  have HP := Lib.hid (strict_pt hs)
  have HH := Lib.hid h
  clear hc hl hs h
  go_enter Tryz.func32, Tryz.ntmps32
  go_wp2_with (go_at_call 33; (with_reducible refine LB.out.mono ?_); rintro e w0 ⟨rfl, g0⟩; have G0 := Lib.hid g0; clear g0)
  go_loopw [15] (fun i wr => ∃ k : Nat, k ≤ ps.length ∧ i = .int .i64 k ∧ Hid (Blk wr w0.heap.size (sumsC 21 (posS (ps.take k))) 124) ∧ Hid (Grew w0 wr)) (fun i _ => ps.length - (intOf i).toNat)
  case atStart => exact ⟨0, Nat.zero_le _, rfl, sums_made w0, (Grew.refl _).alloc _ _⟩
  case round =>
    obtain ⟨k, hk, rfl, HB, HG⟩ := hrel
    by_cases hlt : k < ps.length
    · obtain ⟨c0, c1, c2⟩ := ((HC.out k hlt).grew G0.out).grew HG.out
      have hq := pt_t (HP.out _ (getP_mem hlt))
      have hst := Lib.hid (pos_step hlt)
      have hsy := Lib.hid (pos_stay hlt)
      have hok := okS_pos HP.out (by omega) k
      generalize ps.getD k default = p at c0 c1 c2 hq hst hsy
      obtain ⟨A, U, N⟩ := p
      simp only at c0 c1 c2 hq
      obtain ⟨u, rfl⟩ : ∃ u : Nat, U = (u : Int) := ⟨U.toNat, by omega⟩
      obtain ⟨-, -, -, hu, hz, hn0, hn1⟩ := hq
      have HOK := Lib.hid (hok u); clear hok
      have hu' : u < 21 := by omega
      clear hz
      by_cases hpos : 0 < N
      · have HST := Lib.hid (hst.out hpos)
        clear hst hsy
        have d0 : wr.cell? ⟨w0.heap.size, u * 2, none⟩ = some (.int .i64 (hiOf (posS (ps.take k) u))) := (HB.out.cell _).trans (sums_hi 21 _ u hu')
        have d1 : wr.cell? ⟨w0.heap.size, u * 2 + 1, none⟩ = some (.int .u64 (loOf (posS (ps.take k) u))) := (HB.out.cell _).trans (sums_lo 21 _ u hu')
        go_wp2
        have e0 : (wr.alloc (.cells #[.int .i64 A, .int .i64 (u : Int), .int .i64 N] 49)).cell? ⟨wr.heap.size, 0, none⟩ = some (.int .i64 A) := (Blk.made wr _ _).cell 0
        have e1 : (wr.alloc (.cells #[.int .i64 A, .int .i64 (u : Int), .int .i64 N] 49)).cell? ⟨wr.heap.size, 1, none⟩ = some (.int .i64 (u : Int)) := (Blk.made wr _ _).cell 1
        have e2 : (wr.alloc (.cells #[.int .i64 A, .int .i64 (u : Int), .int .i64 N] 49)).cell? ⟨wr.heap.size, 2, none⟩ = some (.int .i64 N) := (Blk.made wr _ _).cell 2
        have GA := Lib.hid (HG.out.alloc #[.int .i64 A, .int .i64 (u : Int), .int .i64 N] 49)
        have WA := Lib.hid (HB.out.alloc (.cells #[.int .i64 A, .int .i64 (u : Int), .int .i64 N] 49))
        clear d0 d1 c0 c1 c2
        generalize wr.alloc (.cells #[.int .i64 A, .int .i64 (u : Int), .int .i64 N] 49) = W1 at *
        have d0 : W1.cell? ⟨w0.heap.size, u * 2, none⟩ = some (.int .i64 (hiOf (posS (ps.take k) u))) := (WA.out.cell _).trans (sums_hi 21 _ u hu')
        have d1 : W1.cell? ⟨w0.heap.size, u * 2 + 1, none⟩ = some (.int .u64 (loOf (posS (ps.take k) u))) := (WA.out.cell _).trans (sums_lo 21 _ u hu')
        have hlt2 : w0.heap.size < wr.heap.size := HB.out.lt
        have hne : wr.heap.size ≠ w0.heap.size := by omega
        have hne' : w0.heap.size ≠ wr.heap.size := by omega
        have hu0 : (0 : Int) ≤ (u : Int) := by omega
        have hu1 : (u : Int) < 21 := by omega
        go_region_with (go_at_call 60; (with_reducible refine (plus_at (posS (ps.take k) u) N _ HOK.out (by omega) (by omega)).mono ?_); rintro e w1 ⟨rfl, g1⟩; have k1 := g1.cell (cell_in (w := W1.drew) e1) e1; have B1 := Lib.hid ((WA.out.drew).grew g1); have d2 : w1.cell? ⟨w0.heap.size, u * 2, none⟩ = some (.int .i64 (hiOf (posS (ps.take k) u))) := (B1.out.cell _).trans (sums_hi 21 _ u hu'); have d3 : w1.cell? ⟨w0.heap.size, u * 2 + 1, none⟩ = some (.int .u64 (loOf (posS (ps.take k) u))) := (B1.out.cell _).trans (sums_lo 21 _ u hu'); have f0 := B1.out.frozen (u * 2); have f1 := B1.out.frozen (u * 2 + 1); have G1 := Lib.hid (gtr GA.out.drew g1); clear g1)
        all_goals go_wp2
        all_goals go_roundw
        all_goals first
          | (case rel => exact ⟨k + 1, by omega, by go_num, unit_put hu' HST.out B1.out, (G1.out.setCell (by simp) _).setCell (by simp) _⟩)
          | (case measure => simp [intOf]; omega)
      · have HSY := Lib.hid (hsy.out hpos)
        clear hst hsy
        have hpos' : decide (0 < N) = false := decide_eq_false hpos
        have HBx : Hid (Blk wr w0.heap.size (sumsC 21 (posS (ps.take (k + 1)))) 124) := by
          unfold Hid
          rw [sums_ext (g := posS (ps.take k)) fun x _ => HSY.out x]
          exact HB.out
        go_wp2
        go_roundw
        case rel => exact ⟨k + 1, by omega, by go_num, HBx.out.alloc _, HG.out.alloc _ _⟩
        case measure => simp [intOf]; omega
    · have e : ps.take k = ps := List.take_of_length_le (by omega)
      rw [e] at HB
      clear e
      have HX := Lib.hid (fun (_ : True) => amounts_run w0.heap.size 21 21 (posS ps) _ wr (by omega) HB.out)
      have HK := Lib.hid (fun e w' => amts_trial (e := e) (w' := w') HH.out (gtr G0.out HG.out))
      go_wp2_with (go_at_call 61; (with_reducible refine (HX.out trivial).mono ?_); intro e w4 h4; have T4 := Lib.hid (HK.out e w4 h4); obtain ⟨_, ⟨_, g4, _, rfl, _⟩ | ⟨_, rfl⟩⟩ := h4)
      all_goals
        go_ret2
        exact T4.out

set_option maxRecDepth 100000 in
theorem trial_none (a : Option Addr) (cap : Nat) (w : World) :
    Calls Tryz.prog 32 #[.slice a 0 cap] w (TrialEnd w []) := by
  have LB := Lib.hid (lines_none a cap w)
  have HH : Hid (linE [] = 0) := (by decide : linE [] = 0)
  go_enter Tryz.func32, Tryz.ntmps32
  go_wp2_with (go_at_call 33; (with_reducible refine LB.out.mono ?_); rintro e w0 ⟨rfl, g0⟩; have G0 := Lib.hid g0; clear g0)
  go_loopw [15] (fun i wr => i = .int .i64 0 ∧ Hid (Blk wr w0.heap.size (sumsC 21 (posS [])) 124) ∧ Hid (Grew w0 wr)) (fun _ _ => 0)
  case atStart => exact ⟨rfl, sums_made w0, (Grew.refl _).alloc _ _⟩
  case round =>
    obtain ⟨rfl, HB, HG⟩ := hrel
    have HX := Lib.hid (fun (_ : True) => amounts_run w0.heap.size 21 21 (posS []) _ wr (by omega) HB.out)
    have HK := Lib.hid (fun e w' => amts_trial (e := e) (w' := w') HH.out (gtr G0.out HG.out))
    go_wp2_with (go_at_call 61; (with_reducible refine (HX.out trivial).mono ?_); intro e w4 h4; have T4 := Lib.hid (HK.out e w4 h4); obtain ⟨_, ⟨_, g4, _, rfl, _⟩ | ⟨_, rfl⟩⟩ := h4)
    all_goals
      go_ret2
      exact T4.out

theorem trial_any (v : Value) (l : List (Int × Int × Int)) (w : World) (hl : ReadsP w v l) : Calls Tryz.prog 32 #[v] w (TrialEnd w l) := by
  by_cases h : linE l = 0
  · rcases hl.cell with ⟨rfl, a, cap, rfl⟩ | ⟨_, b, off, cap, rfl, hc⟩
    · exact trial_none a cap w
    · exact trial_some b off cap l w hl h hc
  · exact trial_bad v l w hl h

end Go.Proofs.YtgccipmeiceonaaGreat
