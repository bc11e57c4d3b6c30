/-
  Merged: BookJ, BookK.
-/
import Derived.Test.YthaahebggboliaaGreatMb4
import Derived.Shelf.SlicesE.Clone
import Derived.Shelf.SlicesQ.Reverse
-- BookJ
namespace Go.Proofs.YthaahebggboliaaGreat
open Go.RowKit Go.Sort Go.Lib
set_option linter.unusedVariables false

/-- what Post answers: R and E -/
def PostRes (b l R : List (Int × Int × Int)) (E : Int) : Prop :=
  (linE b ≠ 0 ∧ E = linE b ∧ R = []) ∨ (linE b = 0 ∧ chkE l ≠ 0 ∧ E = chkE l ∧ R = []) ∨
  (linE b = 0 ∧ chkE l = 0 ∧ ((E = 8 ∧ R = [] ∧ ∃ a u, amtB (sumAt (b ++ l) a u) = false) ∨
    ((∀ a u, amtB (sumAt (b ++ l) a u) = true) ∧ ∃ L, IsBook L (b ++ l) ∧ ((400 < L.length ∧ E = 2 ∧ R = []) ∨ (L.length ≤ 400 ∧ E = 0 ∧ R = L)))))
def PostEnd (w : World) (b l : List (Int × Int × Int)) (e : Ending) (w' : World) : Prop :=
  Kpt w w' ∧ ∃ R E v, PostRes b l R E ∧ OwnsP w' w.heap.size v R ∧ e = .returned (.tuple #[v, .int .i64 E])

theorem merge_own (w : World) (base : Nat) (v : Value) (s : List (Int × Int × Int)) (h : OwnsP w base v s) (h0 : 0 < s.length) (hm : s.length ≤ 4096) (hp : ∀ x ∈ s, ptB x = true) (hs : s.Pairwise (fun x y => plc x ≤ plc y)) : Calls Tryz.prog 114 #[v] w (MergeRes w s) := by
  rcases (h.reads (inP_of hp)).cell with ⟨rfl, _⟩ | ⟨_, b, off, cap, rfl, hc⟩
  · simp at h0
  · exact merge_some b off cap s w hm hp hs hc

set_option maxRecDepth 100000 in
set_option maxHeartbeats 2000000 in
theorem post_lin (v u : Value) (b l : List (Int × Int × Int)) (w : World) (hb : ReadsP w v b) (h : linE b ≠ 0) :
    Calls Tryz.prog 65 #[v, u] w (PostEnd w b l) := by
  have LB := Lib.hid (lines_any v b w hb)
  have HP : Hid (PostRes b l [] (linE b)) := .inl ⟨h, rfl, rfl⟩
  have q : (linE b != 0) = true := bne_iff_ne.2 h
  clear h hb
  generalize linE b = E at *
  go_enter Tryz.func65, Tryz.ntmps65
  go_wp2_with (go_at_call 57; (with_reducible refine LB.out.mono ?_); rintro e w1 ⟨rfl, g1⟩)
  go_ret2
  exact ⟨g1.kpt, [], E, _, HP.out, OwnsP.nil _ _, rfl⟩

set_option maxRecDepth 100000 in
set_option maxHeartbeats 2000000 in
theorem post_chk (v u : Value) (b l : List (Int × Int × Int)) (w : World) (hb : ReadsP w v b) (hl : ReadsP w u l) (h0 : linE b = 0) (h : chkE l ≠ 0) :
    Calls Tryz.prog 65 #[v, u] w (PostEnd w b l) := by
  have LB := Lib.hid (h0 ▸ lines_any v b w hb)
  have CB := Lib.hid (fun w' (g : Grew w w') => bookCheck_any u l w' (hl.grew g))
  have HP : Hid (PostRes b l [] (chkE l)) := .inr (.inl ⟨h0, h, rfl, rfl⟩)
  have q : (chkE l != 0) = true := bne_iff_ne.2 h
  clear h hb hl h0
  generalize chkE l = E at *
  go_enter Tryz.func65, Tryz.ntmps65
  go_wp2_with (first
    | (go_at_call 57; (with_reducible refine LB.out.mono ?_); rintro e w1 ⟨rfl, g1⟩)
    | (go_at_call 68; (with_reducible refine (CB.out _ g1).mono ?_); rintro e w2 ⟨rfl, g2⟩))
  go_ret2
  exact ⟨(gtr g1 g2).kpt, [], E, _, HP.out, OwnsP.nil _ _, rfl⟩

theorem own_some {w : World} {base : Nat} {v : Value} {ps : List (Int × Int × Int)} (h : OwnsP w base v ps) (h0 : 0 < ps.length) : ∃ blk cap, v = .slice (some ⟨blk, 0, none⟩) ps.length cap ∧ base ≤ blk := by
  rcases h.2 with ⟨_, e⟩ | ⟨k, cap, cur, e, hk, _⟩
  · omega
  · exact ⟨k, cap, e, hk⟩
theorem sort_n (w : World) (base blk cap n : Nat) (ps : List (Int × Int × Int)) (hn : ps.length = n) (h : OwnsP w base (.slice (some ⟨blk, 0, none⟩) n cap) ps) (hm : n ≤ 100000) :
    Calls Tryz.prog 111 #[.slice (some ⟨blk, 0, none⟩) n cap, .func (.func 112) #[] #[]] w fun e w' =>
      e = .returned (.tuple #[]) ∧ ∃ qs : List (Int × Int × Int), qs.Perm ps ∧ qs.Pairwise (fun x y => keyP x ≤ keyP y) ∧ OwnsP w' base (.slice (some ⟨blk, 0, none⟩) n cap) qs ∧ w.grownBy w' (some blk) := by
  subst hn
  refine (sort_run w base blk cap ps h hm).mono ?_
  rintro e w' ⟨he, qs, hp, hs, ho, hg⟩
  rw [hp.length_eq] at ho
  exact ⟨he, qs, hp, hs, ho, hg⟩
theorem perm_pt {s t : List (Int × Int × Int)} (h : s.Perm t) (ht : ∀ x ∈ t, ptB x = true) : ∀ x ∈ s, ptB x = true := fun x hx => ht x (h.mem_iff.1 hx)
theorem keys_plc {s : List (Int × Int × Int)} (h : ∀ x ∈ s, ptB x = true) (hs : s.Pairwise (fun x y => keyP x ≤ keyP y)) : s.Pairwise (fun x y => plc x ≤ plc y) :=
  hs.imp_of_mem fun {a b} ha hb q => by rw [key_plc (h a ha), key_plc (h b hb)] at q; exact q
theorem OwnsP.base {w : World} {B B' : Nat} {v : Value} {ps : List (Int × Int × Int)} (h : OwnsP w B v ps) (hb : B' ≤ B) : OwnsP w B' v ps := by
  obtain ⟨h1, h2⟩ := h
  refine ⟨h1, ?_⟩
  rcases h2 with h2 | ⟨k, cap, cur, e, hk, r⟩
  · exact .inl h2
  · exact .inr ⟨k, cap, cur, e, Nat.le_trans hb hk, r⟩
theorem OwnsP.form {w : World} {B : Nat} {v : Value} {ps : List (Int × Int × Int)} (h : OwnsP w B v ps) : ∃ a cap, v = .slice a ps.length cap := by
  rcases h.2 with ⟨e, e'⟩ | ⟨k, cap, cur, e, _⟩
  · exact ⟨none, 0, by rw [e, e']⟩
  · exact ⟨_, cap, e⟩
theorem kpt_sorted {w w2 w3 w4 : World} {o : Obj} {blk : Nat} (h3 : Kpt w w3) (hg : w3.grownBy w4 (some blk)) (hb : (w2.alloc o).heap.size ≤ blk) (h2 : Kpt w w2) : Kpt w w4 :=
  Below.grown h3 hg h3.size fun k hk => by
    injection hk with hk
    subst hk
    have := h2.size
    rw [World.size_alloc] at hb
    omega
theorem merge_post {b l s : List (Int × Int × Int)} {w w' : World} {e : Ending} (hp : s.Perm (b ++ l)) (h0 : linE b = 0) (h1 : chkE l = 0) (h : MergeRes w s e w') :
    Kpt w w' ∧ ((PostRes b l [] 8 ∧ e = .returned (.tuple #[.slice none 0 0, .int .i64 8])) ∨ (∃ L a cap, (400 < L.length → PostRes b l [] 2) ∧ (L.length ≤ 400 → PostRes b l L 0) ∧ L.length ≤ s.length ∧ OwnsP w' w.heap.size (.slice a L.length cap) L ∧ e = .returned (.tuple #[.slice a L.length cap, .int .i64 0]))) := by
  obtain ⟨hk, ⟨a, u, hbad, rfl⟩ | ⟨L, v, hB, hok, hf, ho, rfl⟩⟩ := h
  · exact ⟨hk, .inl ⟨.inr (.inr ⟨h0, h1, .inl ⟨rfl, rfl, a, u, by rw [← sumAt_perm hp]; exact hbad⟩⟩), rfl⟩⟩
  · have hB' : IsBook L (b ++ l) := ⟨hB.strict, fun p => by rw [hB.mem, sumAt_perm hp]⟩
    have hok' : ∀ a u, amtB (sumAt (b ++ l) a u) = true := fun a u => by rw [← sumAt_perm hp]; exact hok a u
    obtain ⟨a, cap, rfl⟩ := ho.form
    exact ⟨hk, .inr ⟨L, a, cap, fun g => .inr (.inr ⟨h0, h1, .inr ⟨hok', L, hB', .inl ⟨g, rfl, rfl⟩⟩⟩), fun g => .inr (.inr ⟨h0, h1, .inr ⟨hok', L, hB', .inr ⟨g, rfl, rfl⟩⟩⟩), hf, ho, rfl⟩⟩

set_option maxRecDepth 100000 in
set_option maxHeartbeats 4000000 in
theorem post_ok (v u : Value) (b l : List (Int × Int × Int)) (w : World) (hb : ReadsP w v b) (hl : ReadsP w u l) (h0 : linE b = 0) (h1 : chkE l = 0) :
    Calls Tryz.prog 65 #[v, u] w (PostEnd w b l) := by
  have LB := Lib.hid (h0 ▸ lines_any v b w hb)
  have CB := Lib.hid (fun w' (g : Grew w w') => (h1 ▸ bookCheck_any u l w' (hl.grew g) : Calls Tryz.prog 68 #[u] w' fun e w'' => e = .returned (.int .i64 0) ∧ Grew w' w''))
  obtain ⟨lb, sb, -⟩ := lin_0 h0
  obtain ⟨ll0, ll, pl, -⟩ := chk_0 h1
  have RB := Lib.hid hb
  have RL := Lib.hid hl
  have PT : Hid (∀ x ∈ b ++ l, ptB x = true) := fun x hx => by
    rcases List.mem_append.1 hx with h | h
    · exact strict_pt sb x h
    · exact pl x h
  have H0 := Lib.hid h0; have H1 := Lib.hid h1
  obtain ⟨a1, c1, rfl, -⟩ := id hb
  obtain ⟨a2, c2, rfl, -⟩ := id hl
  have hlen : (b ++ l).length = b.length + l.length := List.length_append
  have HLEN := Lib.hid hlen
  clear hb hl h0 h1 sb pl hlen
  go_enter Tryz.func65, Tryz.ntmps65
  go_wp2_with (first
    | (go_at_call 57; (with_reducible refine LB.out.mono ?_); rintro e w1 ⟨rfl, g1⟩)
    | (go_at_call 68; (with_reducible refine (CB.out _ g1).mono ?_); rintro e w2 ⟨rfl, g2⟩; have G2 := Lib.hid (gtr g1 g2).kpt; have B2 := Lib.hid (Blk.made w2 #[.slice a1 b.length c1, .slice a2 l.length c2] 29))
    | (go_at_call 110; (with_reducible refine (concat2 _ w2.heap.size a1 a2 c1 c2 b l (B2.out.cell 0) (B2.out.cell 1) (RB.out.kpt (G2.out.alloc _)) (RL.out.kpt (G2.out.alloc _)) (by omega) (by omega)).mono ?_); rintro e w3 ⟨⟨va, rfl, ho⟩, k3⟩; obtain ⟨blk, cp, hv, hblk⟩ := own_some ho (by rw [HLEN.out]; omega); rw [HLEN.out] at hv; subst hv; have HO := Lib.hid ho; have G3 := Lib.hid (ktr (G2.out.alloc _) k3); have HB := Lib.hid hblk; clear ho k3 hblk)
    | (go_at_call 111; (with_reducible refine (sort_n _ _ blk cp (b.length + l.length) (b ++ l) HLEN.out HO.out (by omega)).mono ?_); rintro e w4 ⟨rfl, qs, hp, hs, ho, hg⟩; have HQ := Lib.hid ho; have HPE := Lib.hid hp; have HSO := Lib.hid hs; have HG := Lib.hid hg; clear ho hp hs hg; have G4 := Lib.hid (kpt_sorted G3.out HG.out HB.out G2.out); have PQ := Lib.hid (perm_pt HPE.out PT.out))
    | (go_at_call 114; (with_reducible refine (merge_own _ _ _ qs HQ.out (by rw [HPE.out.length_eq, HLEN.out]; omega) (by rw [HPE.out.length_eq, HLEN.out]; omega) PQ.out (keys_plc PQ.out HSO.out)).mono ?_); intro e w5 hmr; obtain ⟨k5, hres⟩ := merge_post HPE.out H0.out H1.out hmr; have G5 := Lib.hid (ktr G4.out k5); clear hmr k5; rcases hres with ⟨hpr, rfl⟩ | ⟨L, a5, c5, r1, r2, r3, ho5, rfl⟩))
  · go_ret2
    exact ⟨G5.out, [], 8, _, hpr, OwnsP.nil _ _, rfl⟩
  all_goals
    go_ret2
    first
      | exact ⟨G5.out, [], 2, _, r1 (by omega), OwnsP.nil _ _, rfl⟩
      | exact ⟨G5.out, L, 0, _, r2 (by omega), ho5.base G4.out.size, rfl⟩

theorem post_any (v u : Value) (b l : List (Int × Int × Int)) (w : World) (hb : ReadsP w v b) (hl : ReadsP w u l) : Calls Tryz.prog 65 #[v, u] w (PostEnd w b l) := by
  by_cases h0 : linE b = 0
  · by_cases h1 : chkE l = 0
    · exact post_ok v u b l w hb hl h0 h1
    · exact post_chk v u b l w hb hl h0 h1
  · exact post_lin v u b l w hb h0

end Go.Proofs.YthaahebggboliaaGreat

-- BookK
namespace Go.Proofs.YthaahebggboliaaGreat
open Go.RowKit Go.Sort Go.Lib
set_option linter.unusedVariables false

theorem clone_run (v : Value) (ps : List (Int × Int × Int)) (w : World) (h : ReadsP w v ps) (h0 : 0 < ps.length) (hm : ps.length ≤ 100000) :
    Calls Tryz.prog 86 #[v] w fun e w' => ∃ blk cap, e = .returned (.slice (some ⟨blk, 0, none⟩) ps.length cap) ∧ OwnsP w' w.heap.size (.slice (some ⟨blk, 0, none⟩) ps.length cap) ps ∧ Kpt w w' := by
  obtain ⟨i0, hi, hz0, hz1, hz2⟩ := info_parts Tryz.infoPost
  rcases h.cell with ⟨rfl, _⟩ | ⟨_, b, off, cap, rfl, hc⟩
  · simp at h0
  · have zE : ∀ w, (Go.sizeOf 55).run Tryz.prog w = .ok 3 w := fun w => by kernel_rfl
    refine (AnyE.slices_Clone Tryz.cloP i0 _ 3 24 hi hz0 hz1 hz2 rfl (by decide) zE b off ps.length cap (flatP ps) w (flatP_len ps) h.len (by omega) ?_ (flatP_one ps)).mono ?_
    · intro j u hu
      have hj : j < ps.length * 3 := by
        have := (List.getElem?_eq_some_iff.1 hu).1
        rwa [flatP_len] at this
      obtain ⟨q, r, hr, rfl⟩ : ∃ q r, r < 3 ∧ j = q * 3 + r := ⟨j / 3, j % 3, by omega, by omega⟩
      have hq : q < ps.length := by omega
      obtain ⟨h1, h2, h3⟩ := hc q hq
      obtain ⟨e0, e1, e2⟩ := flatP_at ps q hq
      rw [← Nat.add_assoc]
      rcases (show r = 0 ∨ r = 1 ∨ r = 2 by omega) with rfl | rfl | rfl
      · rw [Nat.add_zero] at hu ⊢; rw [e0] at hu; rw [← hu]; exact h1
      · rw [e1] at hu; rw [← hu]; exact h2
      · rw [e2] at hu; rw [← hu]; exact h3
    · rintro e w' ⟨v', rfl, ho, _, hb⟩
      obtain ⟨blk, cap', rfl, _⟩ := own_some (ps := ps) ho h0
      exact ⟨blk, cap', rfl, ho, hb⟩

theorem reverse_run (w : World) (base blk cap : Nat) (ps : List (Int × Int × Int)) (h : OwnsP w base (.slice (some ⟨blk, 0, none⟩) ps.length cap) ps) (hm : ps.length ≤ 100000) :
    Calls Tryz.prog 115 #[.slice (some ⟨blk, 0, none⟩) ps.length cap] w fun e w' =>
      e = .returned (.tuple #[]) ∧ OwnsP w' base (.slice (some ⟨blk, 0, none⟩) ps.length cap) ps.reverse ∧ w.grownBy w' (some blk) := by
  rcases h.2 with ⟨e, _⟩ | ⟨k, cap', cur, e, hk, hh, hc, hmx, hs, ht⟩
  · cases e
  · injection e with e1 e2 e3
    injection e1 with e1
    injection e1 with e1 _ _
    subst e1; subst e3
    have aE : ∀ w, (isAgg 55).run Tryz.prog w = .ok true w := fun w => by kernel_rfl
    have zE : ∀ w, (Go.sizeOf 55).run Tryz.prog w = .ok 3 w := fun w => by kernel_rfl
    refine (AnyQ.slices_Reverse Tryz.revP 3 aE zE encP (fun _ => rfl) (fun x v hv => by simp [encP] at hv; rcases hv with rfl | rfl | rfl <;> rfl) blk 0 cap ps.toArray w (holds_own hh ht) (by simp; omega)).mono ?_
    rintro e w' ⟨rfl, n, rfl⟩
    have er : ps.toArray.reverse = ps.reverse.toArray := by simp
    have hp := heap_put (n := n) (os := #[]) (flatP ps.reverse).toArray hh
    have hg := grown_put (w := w) (g := blk) (n := n) (os := #[]) (flatP ps.reverse).toArray
    rw [grow_empty] at hp hg
    have ew : putRowK encP 3 (Sort.ahead w n) blk 0 ps.toArray.reverse = putRow id (Sort.ahead w n) blk 0 (flatP ps.reverse).toArray := by
      rw [er]; unfold putRowK; rw [flatK_eq]
    rw [ew]
    refine ⟨rfl, ⟨by rw [flatP_len, List.length_reverse], .inr ⟨blk, cap, _, ?_, hk, hp, ?_, hmx, by simp [putCells, hs], ?_⟩⟩, hg⟩
    · rw [List.length_reverse]
    · rw [List.length_reverse]; exact hc
    · have := take_put cur (flatP ps.reverse) (by rw [flatP_len, hs, List.length_reverse]; omega)
      rw [flatP_len] at this
      exact this

end Go.Proofs.YthaahebggboliaaGreat
