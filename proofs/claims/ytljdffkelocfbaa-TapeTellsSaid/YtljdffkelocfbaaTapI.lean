/-
  What Get of package tape does.
-/
import Derived.RangeFuncBox
import Derived.RangeFuncWrites
import Derived.Test.YtljdffkelocfbaaTapH
import Derived.Test.YtljdffkelocfbaaOrds
namespace Go.Proofs.Ytljdffkelocfbaa
open Go.RowKit Go.Shelf
set_option linter.unusedVariables false
attribute [local go_sem] Oper.semAt_some

theorem records_run (a : Option Addr) (n cap : Nat) (w : World) : Calls Try.prog 25 #[.slice a n cap] w fun e w' => e = .returned (.func (.func 29) #[] #[.pointer (some ⟨w.heap.size, 0, none⟩)]) ∧ w' = w.alloc (.cells #[.slice a n cap] 22) := by
  go_enter Try.func25, Try.ntmps25
  go_wp2
  go_ret
  exact ⟨rfl, rfl⟩
/-- slices of the call's own, in a slice of the call's own -/
def OwnsS (w : World) (base : Nat) (v : Value) (us : List Value) : Prop := w.ownsRow base 22 1 v us.length us
theorem OwnsU.own {w w' : World} {base : Nat} {u : Value} {bs : List Nat} {row : Option Nat} (h : OwnsU w base u bs) (g : w.grownBy w' row) (hr : ∀ r, row = some r → ∃ o : Obj, w.heap[r]? = some o ∧ o.isCells = false) : OwnsU w' base u bs := by
  obtain ⟨h1, h2⟩ := h
  refine ⟨h1, ?_⟩
  rcases h2 with h2 | ⟨k, cap, cur, rfl, hk, hh, r⟩
  · exact .inl h2
  · exact .inr ⟨k, cap, cur, rfl, hk, (g.block k (heap_lt hh) (fun e => by obtain ⟨o, ho, hc⟩ := hr k e.symm; rw [hh] at ho; cases ho; cases hc)).trans hh, r⟩
theorem OwnsS.own {w w' : World} {base : Nat} {u : Value} {us : List Value} {row : Option Nat} (h : OwnsS w base u us) (g : w.grownBy w' row) (hr : ∀ r, row = some r → ∃ o : Obj, w.heap[r]? = some o ∧ o.isCells = false) : OwnsS w' base u us := by
  obtain ⟨h1, h2⟩ := h
  refine ⟨h1, ?_⟩
  rcases h2 with h2 | ⟨k, cap, cur, rfl, hk, hh, r⟩
  · exact .inl h2
  · exact .inr ⟨k, cap, cur, rfl, hk, (g.block k (heap_lt hh) (fun e => by obtain ⟨o, ho, hc⟩ := hr k e.symm; rw [hh] at ho; cases ho; cases hc)).trans hh, r⟩
theorem OwnsS.kpt {w w' : World} {base : Nat} {u : Value} {us : List Value} (h : OwnsS w base u us) (g : Kpt w w') : OwnsS w' base u us := by
  refine ⟨h.1, ?_⟩
  rcases h.2 with h2 | ⟨k, cap, cur, e, hk, hh, r⟩
  · exact .inl h2
  · exact .inr ⟨k, cap, cur, e, hk, (Below.block g k (heap_lt hh)).trans hh, r⟩
theorem OwnsS.nil (w : World) (base : Nat) : OwnsS w base (.slice none 0 0) [] := ⟨rfl, .inl ⟨rfl, rfl⟩⟩
theorem Blk.ownU {w w' : World} {g : Nat} {cs : Array Value} {T : TypeId} {row : Option Nat} (h : Blk w g cs T) (k : w.grownBy w' row) (hr : ∀ r, row = some r → ∃ o : Obj, w.heap[r]? = some o ∧ o.isCells = false) : Blk w' g cs T :=
  (k.block g h.lt (fun e => by obtain ⟨o, ho, hc⟩ := hr g e.symm; rw [show w.heap[g]? = _ from h] at ho; cases ho; cases hc)).trans h
theorem Blk.norowS {w : World} {g : Nat} {cs : Array Value} {T : TypeId} (h : Blk w g cs T) (hT : T ≠ 22) {base : Nat} {v : Value} {us : List Value} (hr : OwnsS w base v us) : some g ≠ v.ownBlock := by
  rcases hr.2 with ⟨rfl, _⟩ | ⟨k, cap, cur, rfl, _, hh, _⟩
  · simp [Value.ownBlock]
  · intro e'
    have e'' : g = k := by simpa [Value.ownBlock] using e'
    subst e''
    rw [show w.heap[g]? = _ from h] at hh
    cases hh
    exact hT rfl
theorem Blk.grownU {w w' : World} {g : Nat} {cs : Array Value} {T : TypeId} {row : Option Nat} (h : Blk w g cs T) (k : w.grownBy w' row) (hr : some g ≠ row) : Blk w' g cs T := (k.block g h.lt hr).trans h
theorem OwnsU.grown {w w' : World} {base : Nat} {u v : Value} {bs : List Nat} {us : List Value} (h : OwnsU w base u bs) (hv : OwnsS w base v us) (g : w.grownBy w' v.ownBlock) : OwnsU w' base u bs := by
  obtain ⟨h1, h2⟩ := h
  refine ⟨h1, ?_⟩
  rcases h2 with h2 | ⟨k, cap, cur, rfl, hk, hh, r⟩
  · exact .inl h2
  · exact .inr ⟨k, cap, cur, rfl, hk, (g.block k (heap_lt hh) (Blk.norowS (show Blk w k cur 5 from hh) (by decide) hv)).trans hh, r⟩
theorem OwnsU.away {w : World} {base : Nat} {u : Value} {bs : List Nat} {b : Nat} {cs : Array Value} {T : TypeId} (h : OwnsU w base u bs) (hb : Blk w b cs T) (hT : T ≠ 5) (o : Nat) (x : Value) : OwnsU (w.setCell ⟨b, o, none⟩ x) base u bs := by
  obtain ⟨h1, h2⟩ := h
  refine ⟨h1, ?_⟩
  rcases h2 with h2 | ⟨k, cap, cur, rfl, hk, hh, r⟩
  · exact .inl h2
  · refine .inr ⟨k, cap, cur, rfl, hk, (Below.heap_setCell _ _ _ _ (fun e => ?_)).trans hh, r⟩
    have e : k = b := e
    subst e
    rw [show w.heap[k]? = _ from hb] at hh
    cases hh
    exact hT rfl
theorem OwnsS.away {w : World} {base : Nat} {u : Value} {us : List Value} {b : Nat} {cs : Array Value} {T : TypeId} (h : OwnsS w base u us) (hb : Blk w b cs T) (hT : T ≠ 22) (o : Nat) (x : Value) : OwnsS (w.setCell ⟨b, o, none⟩ x) base u us := by
  obtain ⟨h1, h2⟩ := h
  refine ⟨h1, ?_⟩
  rcases h2 with h2 | ⟨k, cap, cur, rfl, hk, hh, r⟩
  · exact .inl h2
  · refine .inr ⟨k, cap, cur, rfl, hk, (Below.heap_setCell _ _ _ _ (fun e => ?_)).trans hh, r⟩
    have e : k = b := e
    subst e
    rw [show w.heap[k]? = _ from hb] at hh
    cases hh
    exact hT rfl
theorem kothersU {w w' : World} (k : Kpt w w') : KeepsOthers w w' := ⟨Below.size k, fun i o h _ => (Below.block k i (heap_lt h)).trans h⟩

/-- remainders stay -/
def RemK (W W' : World) : Prop := ∀ (j : Nat) (cs : Array Value) (f : Nat × Nat), W.heap[j]? = some (Obj.cells cs 54 f) → W'.heap[j]? = some (Obj.cells cs 54 f)
theorem RemK.t {X Y Z : World} (h : RemK X Y) (k : RemK Y Z) : RemK X Z := fun j cs f q => k j cs f (h j cs f q)
theorem RemK.kpt {X Y : World} (h : Kpt X Y) : RemK X Y := fun j cs f q => (Below.block h j (heap_lt q)).trans q
theorem RemK.grown {X Y : World} {base : Nat} {v : Value} {us : List Value} (hv : OwnsS X base v us) (g : X.grownBy Y v.ownBlock) : RemK X Y := fun j cs f q => by
  refine (g.block j (heap_lt q) ?_).trans q
  rcases hv.2 with ⟨rfl, _⟩ | ⟨k, cap, cur, rfl, _, hh, _⟩
  · simp [Value.ownBlock]
  · intro e'
    have e'' : j = k := by simpa [Value.ownBlock] using e'
    subst e''
    rw [q] at hh
    cases hh
theorem RemK.set {X : World} {b : Nat} {cs' : Array Value} {T : TypeId} (hb : Blk X b cs' T) (hT : T ≠ 54) (o : Nat) (x : Value) : RemK X (X.setCell ⟨b, o, none⟩ x) := fun j cs f q => by
  refine (Below.heap_setCell _ _ _ _ (fun e => ?_)).trans q
  have e : j = b := e
  subst e
  rw [show X.heap[j]? = _ from hb] at q
  cases q
  exact hT rfl
/-- what lies in a round of Get -/
structure GS (n0 b : Nat) (W : World) (v : Value) (us : List Value) (Ls : List (List Nat)) (e : Nat) : Prop where
  bl : Blk W b #[v] 28
  be : Blk W (b + 1) #[.int .i64 (e : Int)] 3
  ro : OwnsS W n0 v us
  ln : us.length = Ls.length
  el : ∀ k, k < us.length → OwnsU W n0 (us.getD k undef) (Ls.getD k [])
theorem GS.kpt {n0 b : Nat} {W W' : World} {v : Value} {us : List Value} {Ls : List (List Nat)} {e : Nat} (h : GS n0 b W v us Ls e) (k : Kpt W W') : GS n0 b W' v us Ls e :=
  ⟨h.bl.below k h.bl.lt, h.be.below k h.be.lt, h.ro.kpt k, h.ln, fun j hj => (h.el j hj).kpt k⟩
theorem GS.own {n0 b : Nat} {W W' : World} {v : Value} {us : List Value} {Ls : List (List Nat)} {e : Nat} {row : Option Nat} (h : GS n0 b W v us Ls e) (g : W.grownBy W' row) (hr : ∀ r, row = some r → ∃ o : Obj, W.heap[r]? = some o ∧ o.isCells = false) : GS n0 b W' v us Ls e :=
  ⟨h.bl.ownU g hr, h.be.ownU g hr, h.ro.own g hr, h.ln, fun j hj => (h.el j hj).own g hr⟩
theorem GS.add {n0 b : Nat} {W w1 : World} {v v' u : Value} {us : List Value} {Ls : List (List Nat)} {bs : List Nat} {e : Nat} {tmp : Obj} (h : GS n0 b W v us Ls e) (hu : OwnsU W n0 u bs) (hn : n0 ≤ b) (own' : OwnsS w1 n0 v' (us ++ [u])) (hg : (W.alloc tmp).grownBy w1 v.ownBlock) :
    Boxed w1 b 28 v ∧ GS n0 b (w1.setCell ⟨b, 0, none⟩ v') v' (us ++ [u]) (Ls ++ [bs]) e ∧ KeepsOthers W (w1.setCell ⟨b, 0, none⟩ v') ∧ Below n0 W (w1.setCell ⟨b, 0, none⟩ v') ∧ RemK W (w1.setCell ⟨b, 0, none⟩ v') := by
  have hs : n0 ≤ W.heap.size := by have := h.bl.lt; omega
  obtain ⟨a1, a2, a3, a4, a5⟩ := Boxed.appended (show Boxed W b 28 v from h.bl) (by decide) h.ro hs (by omega) own' hg
  have al : ∀ {g : Nat} {cs : Array Value} {T : TypeId}, Blk W g cs T → Blk (W.alloc tmp) g cs T := fun q => q.alloc _
  have ro := h.ro.kpt ((Kpt.refl W).alloc tmp)
  refine ⟨a1, ⟨a2, ?_, a3, by simp [h.ln], fun k hk => ?_⟩, a4, a5, (RemK.kpt ((Kpt.refl W).alloc tmp)).t ((RemK.grown ro hg).t (RemK.set (show Blk w1 b #[v] 28 from a1) (by decide) 0 v'))⟩
  · exact ((al h.be).grownU hg ((al h.be).norowS (by decide) ro)).away (p := ⟨b, 0, none⟩) (by show b + 1 ≠ b; omega) _
  · have key : ∀ {x : Value} {l : List Nat}, OwnsU W n0 x l → OwnsU (w1.setCell ⟨b, 0, none⟩ v') n0 x l := fun q => ((q.kpt ((Kpt.refl W).alloc tmp)).grown ro hg).away (show Blk w1 b #[v] 28 from a1) (by decide) 0 v'
    rw [List.length_append, List.length_singleton] at hk
    by_cases hk2 : k < us.length
    · rw [List.getD_eq_getElem?_getD, List.getElem?_append_left hk2, ← List.getD_eq_getElem?_getD, List.getD_eq_getElem?_getD (l := Ls ++ [bs]), List.getElem?_append_left (by have := h.ln; omega), ← List.getD_eq_getElem?_getD]
      exact key (h.el k hk2)
    · obtain rfl : k = us.length := by omega
      rw [List.getD_eq_getElem?_getD, List.getElem?_append_right (Nat.le_refl _), List.getD_eq_getElem?_getD (l := Ls ++ [bs]), h.ln, List.getElem?_append_right (Nat.le_refl _)]
      simpa using key hu
theorem GS.put {n0 b : Nat} {W : World} {v : Value} {us : List Value} {Ls : List (List Nat)} {e : Nat} (h : GS n0 b W v us Ls e) (e' : Nat) : GS n0 b (W.setCell ⟨b + 1, 0, none⟩ (.int .i64 (e' : Int))) v us Ls e' :=
  ⟨h.bl.away (p := ⟨b + 1, 0, none⟩) (by show b ≠ b + 1; omega) _, h.be.put 0 _, h.ro.away h.be (by decide) 0 _, h.ln, fun j hj => (h.el j hj).away h.be (by decide) 0 _⟩

theorem OwnsS.form {w : World} {base : Nat} {v : Value} {us : List Value} (h : OwnsS w base v us) : ∃ a n cap, v = .slice a n cap ∧ Hid (n = us.length) := by
  rcases h.2 with ⟨rfl, hn⟩ | ⟨k, cap, cur, rfl, hk, hh, hn, hm, hs, ht⟩
  · exact ⟨none, 0, 0, rfl, hn.symm⟩
  · exact ⟨_, _, cap, rfl, rfl⟩
theorem OwnsU.one {w : World} {base : Nat} {v : Value} {bs : List Nat} (h : OwnsU w base v bs) : v.oneCell' = true := by
  obtain ⟨a, n, c, rfl, -⟩ := h.form; rfl
theorem recV_reads {w : World} {a : Option Addr} {cap : Nat} {t : List Nat} (h : ReadsU w (.slice a t.length cap) t) (k : Nat) (hk : k < (recs t).length) : ∃ ax cx, recV a cap t k = .slice ax ((recs t).getD k []).length cx ∧ ReadsU w (.slice ax ((recs t).getD k []).length cx) ((recs t).getD k []) := by
  obtain ⟨hf, hbd, hfs, hpos, hle⟩ := rec_is hk
  obtain ⟨b, off, rfl⟩ := h.some (by omega)
  have h1 := (h.drop (n := pos t k + 2) (by omega)).take (n := ((recs t).getD k []).length) (by rw [List.length_drop]; omega)
  have e : (t.drop (pos t k + 2)).take ((recs t).getD k []).length = (recs t).getD k [] := by
    rw [← hfs, ← List.drop_drop]; exact hbd
  rw [e] at h1
  refine ⟨_, _, rfl, ?_⟩
  rw [show cap - pos t k - 2 = cap - (pos t k + 2) by omega]
  exact h1

theorem Try.infoSU : (Try.prog.info? 22).map (fun i => (i.zero, i.size, i.bytes)) = some (some (.slice none 0 0), 1, 24) := by kernel_rfl
theorem wpIn_appendS {F : Fence} {n : Nat} {ops : Array Oper} {rest : List Oper} {o : Oper} {a : Act} {Q : Exit → Act → World → Prop} (hgd : o.guard = none) (s x : Operand)
    (ho : o.op = .call { callee := .builtin .append, args := #[s, x], argTypes := #[28, 28] })
    (base : Nat) (v u : Value) (us : List Value) (w : World) (g c : Nat) (T' : TypeId) (hs : a.eval s = v) (hown : OwnsS w base v us) (hx : a.eval x = .slice (some ⟨g, 0, none⟩) 1 c) (hg : Blk w g #[u] T') (hu : u.oneCell' = true)
    (hlen : us.length + 1 ≤ 100000) (hbase : base ≤ w.heap.size)
    (h : ∀ v' w', OwnsS w' base v' (us ++ [u]) → w.grownBy w' v.ownBlock → wpListIn F n Try.prog ops Q rest (a.put o.dst v') w') : wpListIn F n Try.prog ops Q (o :: rest) a w := by
  obtain ⟨i0, hi, hz0, hz1, hz2⟩ := info_parts Try.infoSU
  refine wpListIn_append_own _ hgd s x 28 ho base 22 i0 _ 1 24 Try.underlying28 hi hz0 hz1 hz2 rfl (by decide) v _ _ hs hown ⟨g, 0, none⟩ 1 c [u] hx rfl ?_ (by intro z hz; simp at hz; subst hz; exact hu) ?_ ?_ hbase ?_
  · intro j z hz
    exact World.news_of_block hg j z hz
  · unfold maxLen; omega
  · omega
  · intro v' w' h1 h2 _
    refine h v' w' ?_ h2
    unfold OwnsS
    rw [List.length_append]
    exact h1
def RL (t : List Nat) (xs : List (Fin (recs t).length)) : List (List Nat) := xs.map fun x => (recs t).getD x.1 []
theorem RL_s (t : List Nat) (xs : List (Fin (recs t).length)) (x : Fin (recs t).length) : RL t (xs ++ [x]) = RL t xs ++ [(recs t).getD x.1 []] := by simp [RL]
theorem RL_all (t : List Nat) : RL t (List.finRange (recs t).length) = recs t := by
  refine List.ext_getElem (by simp [RL]) fun k a1 a2 => ?_
  simp [RL]
theorem recL_len {t : List Nat} (k : Nat) (hk : k < (recs t).length) : ((recs t).getD k []).length + 6 ≤ t.length := by
  have := (rec_is hk).2.2.2.2; omega
theorem ends_RL {t : List Nat} (xs : List (Fin (recs t).length)) : ends (RL t xs) ≤ xs.length * t.length := by
  induction xs with
  | nil => simp [RL, ends]
  | cons x xs ih =>
    have h := recL_len x.1 x.2
    have e : ends (RL t (x :: xs)) = ((recs t).getD x.1 []).length + 6 + ends (RL t xs) := ends_cons _ _
    rw [e, List.length_cons, Nat.succ_mul]
    omega
theorem recs_few (t : List Nat) : (recs t).length ≤ t.length := by
  have h := (recs_at t _ (Nat.le_refl _)).2
  unfold pos at h
  rw [List.take_length] at h
  have : ∀ L : List (List Nat), L.length ≤ ends L := fun L => by
    induction L with
    | nil => simp [ends]
    | cons b L ih => rw [ends_cons, List.length_cons]; omega
  have := this (recs t)
  omega
theorem recs_ends (t : List Nat) : ends (recs t) ≤ t.length := by
  have h := (recs_at t _ (Nat.le_refl _)).2
  unfold pos at h
  rwa [List.take_length] at h
theorem rec_stops (n : Nat) (hn : 1 ≤ n) (n₀ : Nat) (w w0 : World) (hw : w.heap.size = n₀) (a : Option Addr) (cap : Nat) (t : List Nat) (Bs : Nat) (hR : ReadsU w (.slice a t.length cap) t) (hk : Kpt w w0) (hB : w0.cell? ⟨Bs, 0, none⟩ = some (.slice a t.length cap)) :
    SeqStopsK Fence.wide n Try.prog 29 #[.pointer (some ⟨Bs, 0, none⟩)] (fun x : Fin (recs t).length => #[recV a cap t x.1]) (KpR n₀) (fun ys => ys = List.finRange (recs t).length) (fun pre => pre <+: List.finRange (recs t).length) (recs t).length w0 := by
  intro l J Jx W0 hW hJ hJx hY h0
  subst hw
  exact recIter_in n hn l w a cap t Bs hR J Jx W0 hJ (ktr hk hW) (Kpt.cell hW hB) hY h0

/-- what lies between two rounds of Get -/
def GI (t : List Nat) (w : World) (pre : List (Fin (recs t).length)) (W : World) : Prop := ∃ v us, GS w.heap.size w.heap.size W v us (RL t pre) (ends (RL t pre))
set_option maxRecDepth 100000 in
set_option maxHeartbeats 4000000 in
theorem get_ok (a : Option Addr) (cap : Nat) (t : List Nat) (w : World) (hr : ReadsU w (.slice a t.length cap) t) (h4 : t.length ≤ 4000) : Calls Try.prog 11 #[.slice a t.length cap] w fun e w' => ∃ v us, e = .returned (.tuple #[v, .int .i64 ((ends (recs t) : Nat) : Int), .int .i64 0]) ∧ OwnsS w' w.heap.size v us ∧ us.length = (recs t).length ∧ (∀ k, k < us.length → OwnsU w' w.heap.size (us.getD k undef) ((recs t).getD k [])) ∧ Kpt w w' := by
  have y : decide ((4000 : Int) < (t.length : Int)) = false := decide_eq_false (by omega)
  have HR := Lib.hid hr
  refine (callsIn_wide (n := 3)).1 ?_
  refine callsIn_of_wp_marks Try.func11 rfl trivial ?_ rfl
  simp only [Try.ntmps11, List.size_toArray, List.length_cons, List.length_nil, Nat.reduceAdd, Nat.reduceSub, Array.replicate_succ, Array.replicate_zero, List.push_toArray, List.append_toArray, List.nil_append, List.cons_append]
  gi_wp2_with (refine ⟨trivial, ?_⟩; gi_at_call 25; (with_reducible refine (callsIn_wide.2 (records_run _ _ _ _)).mono ?_); rintro e w' ⟨rfl, rfl⟩)
  obtain ⟨w3, hw3⟩ : ∃ w3, (((w.alloc (.cells #[.slice none 0 0] 28)).alloc (.cells #[.int .i64 0] 3)).alloc (.cells #[.slice a t.length cap] 22)) = w3 := ⟨_, rfl⟩
  have sz : w3.heap.size = w.heap.size + 3 := by rw [← hw3]; simp
  have k3 : Below w.heap.size w w3 := by rw [← hw3]; exact (((Kpt.refl w).alloc _).alloc _).alloc _
  have bL : Blk w3 w.heap.size #[.slice none 0 0] 28 := by rw [← hw3]; exact ((Blk.made w _ _).alloc _).alloc _
  have bE : Blk w3 (w.heap.size + 1) #[.int .i64 0] 3 := by
    rw [← hw3]
    have := Blk.made (w.alloc (.cells #[.slice none 0 0] 28)) #[.int .i64 0] 3
    rw [World.size_alloc] at this
    exact this.alloc _
  have bT : w3.cell? ⟨w.heap.size + 1 + 1, 0, none⟩ = some (.slice a t.length cap) := by rw [← hw3]; simp [go_sem]
  have ST := rec_stops 2 (by omega) w.heap.size w w3 rfl a cap t (w.heap.size + 1 + 1) HR.out k3 bT
  rw [hw3]
  clear hw3
  refine wpIn_rangeFunc_ownF rfl (by omega) (gf := 29) (lb := #[.pointer (some ⟨w.heap.size + 1 + 1, 0, none⟩)]) rfl trivial (enters_of Try.func29 (by kernel_rfl) rfl)
    ST KpR.t (KpR.b (by omega)) (Below.refl _ _) (fun _ => rfl)
    (fun pre W => GI t w pre W ∧ Below w.heap.size w W)
    (fun _ _ _ => False)
    (OwnFrom.and (Own.from (fun s A B row hs hg hr => by obtain ⟨v, us, h1⟩ := hs; exact ⟨v, us, h1.own hg hr⟩) _) (ownFrom_below (Nat.le_refl _) (by omega)))
    (fun _ _ _ _ _ hs _ _ => hs)
    ⟨⟨_, _, bL, bE, OwnsS.nil _ _, rfl, fun j hj => absurd hj (Nat.not_lt_zero j)⟩, k3⟩
    (fun x => { tmps := #[.slice a t.length cap, undef, .slice none 0 0, .int .i64 0, .int .i64 0, .pointer (some ⟨w.heap.size, 0, none⟩), .pointer (some ⟨w.heap.size + 1, 0, none⟩), recV a cap t x.1, .slice a t.length cap, .int .i64 (t.length : Int), .bool false, .slice a t.length cap, .func (.func 29) #[] #[.pointer (some ⟨w.heap.size + 1 + 1, 0, none⟩)], recV a cap t x.1, undef, undef, undef, undef, undef, undef, undef, undef, undef, undef, undef], defers := [] }) ?assign ?body ?done ?stop
  case assign =>
    intro l x W K hK
    generalize recV a cap t x.1 = y at hK ⊢
    gi_wp2
    exact hK
  case body =>
    clear bL bE bT k3 ST
    rintro l pre x W ⟨⟨v, us, hs⟩, hB⟩ hlen
    have c5 : W.cell? ⟨w.heap.size, 0, none⟩ = some v := hs.bl.cell 0
    have S0 := Lib.hid hs
    have HB := Lib.hid hB
    clear hs hB
    obtain ⟨ax, cx, hv, hru⟩ := recV_reads HR.out x.1 x.2
    have CU : Hid (∀ W', Kpt W W' → Calls Try.prog 26 #[.slice ax ((recs t).getD x.1 []).length cx] W' fun e w' => ∃ u, e = .returned u ∧ OwnsU w' w.heap.size u ((recs t).getD x.1 []) ∧ Kpt W' w') := fun W' k => by
      have hb : Below w.heap.size w W' := HB.out.trans (Below.mono k HB.out.size)
      refine (cloneU_run _ _ W' (hru.kpt hb) (by have := recL_len x.1 x.2; omega)).mono ?_
      rintro e w' ⟨u, rfl, ho, hk⟩
      exact ⟨u, rfl, ho.base (Below.size hb), hk⟩
    have hN := recL_len x.1 x.2
    have LR := Lib.hid (fun w => length_run ax ((recs t).getD x.1 []).length cx w (by omega))
    have hes := ends_RL pre
    have hfew := recs_few t
    have he4 : ends (RL t pre) ≤ 16000000 := Nat.le_trans hes (Nat.le_trans (Nat.mul_le_mul (show pre.length ≤ 4000 by omega) h4) (by decide))
    have hnx : ends (RL t (pre ++ [x])) = ends (RL t pre) + (((recs t).getD x.1 []).length + 6) := by rw [RL_s, ends_app]; simp [ends]
    have m1 : IntKind.i64.wrap (((ends (RL t pre) : Nat) : Int) + ((((recs t).getD x.1 []).length : Int) + 6)) = ((ends (RL t (pre ++ [x])) : Nat) : Int) := by rw [IntWalk.i64_in _ (by omega)]; omega
    have US : Hid (us.length + 1 ≤ 100000) := by unfold Hid; have := S0.out.ln; rw [show (RL t pre).length = pre.length by simp [RL]] at this; omega
    have hrl := RL_s t pre x
    have FIN : Hid (∀ W' v' us', GS w.heap.size w.heap.size W' v' us' (RL t pre ++ [(recs t).getD x.1 []]) (ends (RL t (pre ++ [x]))) → KeepsOthers W W' → Below w.heap.size W W' → RemK W W' → KeepsOthers W W' ∧ KpR w.heap.size W W' ∧ GI t w (pre ++ [x]) W' ∧ Below w.heap.size w W') := by
      intro W' v' us' h1 h2 h3 h4
      rw [← hrl] at h1
      exact ⟨h2, ⟨h3, h4⟩, ⟨v', us', h1⟩, HB.out.trans h3⟩
    rw [hv]
    generalize ends (RL t (pre ++ [x])) = E' at *
    generalize ends (RL t pre) = E at *
    generalize RL t (pre ++ [x]) = R' at *
    generalize RL t pre = R at *
    generalize (recs t).getD x.1 [] = bs at *
    generalize bs.length = N at *
    subst hrl
    clear hv hru hN hes hfew he4 hnx hlen
    have hmx : Try.prog.follows .mixedOrders = true := by kernel_rfl
    gi_wp2
    obtain ⟨W1, hW1⟩ : ∃ W1, W.drew = W1 := ⟨_, rfl⟩
    have K1 : Hid (Kpt W W1) := by rw [← hW1]; exact (Kpt.refl W).drewN 1
    have S1 := Lib.hid (S0.out.kpt K1.out)
    have c51 : W1.cell? ⟨w.heap.size, 0, none⟩ = some v := S1.out.bl.cell 0
    refine wpIn_region_ords hmx [[0, 1, 2, 3, 4, 5], [1, 0, 2, 3, 4, 5], [1, 2, 0, 3, 4, 5], [1, 2, 3, 0, 4, 5]] (by kernel_rfl) ?_
    rw [hW1]
    clear hW1 c5
    intro o ho
    simp only [List.mem_cons, List.not_mem_nil, or_false] at ho
    rcases ho with rfl | rfl | rfl | rfl
    all_goals simp only [List.filterMap_cons, List.filterMap_nil, List.getElem?_toArray, List.getElem?_cons_zero, List.getElem?_cons_succ]
    all_goals refine wpListIn_cut 4 ?_
    all_goals simp only [List.take_succ_cons, List.take_zero, List.drop_succ_cons, List.drop_zero]
    all_goals gi_wp2_with (refine ⟨trivial, ?_⟩; gi_at_call 26; refine (CallsIn.inRound l (callsIn_wide.2 (CU.out _ K1.out))).mono ?_; rintro e w4 ⟨u, rfl, ou, k4⟩; obtain ⟨au, nu, cu, rfl, -⟩ := ou.form; have K4 : Hid (Kpt W w4) := Lib.hid (ktr K1.out k4); have OU := Lib.hid ou; have S4 := Lib.hid (S0.out.kpt K4.out); have c6 : World.cell? w4 ⟨w.heap.size, 0, none⟩ = some v := S4.out.bl.cell 0; have c61 : World.cell? (w4.alloc (.cells #[.slice au nu cu] 22)) ⟨w.heap.size, 0, none⟩ = some v := (S4.out.bl.alloc _).cell 0; clear k4 ou)
    all_goals unfold cutQ
    all_goals refine wpIn_appendS rfl (.tmp 14) (.tmp 17) rfl w.heap.size v _ us _ w4.heap.size 1 22 rfl (S4.out.ro.kpt ((Kpt.refl _).alloc _)) rfl (Blk.made w4 _ _) rfl US.out (by rw [World.size_alloc]; have := S4.out.bl.lt; omega) ?_
    all_goals intro v' w5 own' hg'
    all_goals obtain ⟨a1, a2, a3, a4, a5⟩ := S4.out.add OU.out (Nat.le_refl _) own' hg'
    all_goals obtain ⟨av2, nv2, cv2, rfl, -⟩ := own'.form
    all_goals have c7 := a1.cell
    all_goals have f7 := a1.frozen
    all_goals have S5 := Lib.hid a2
    all_goals have T5 := Lib.hid a3
    all_goals have B5 := Lib.hid a4
    all_goals have R5 := Lib.hid a5
    all_goals clear a1 a2 a3 a4 a5 c6 c61 own' hg'
    all_goals gi_wp2
    all_goals obtain ⟨W7, hW7⟩ : ∃ W7, (w5.setCell ⟨w.heap.size, 0, none⟩ (.slice av2 nv2 cv2)).drew = W7 := ⟨_, rfl⟩
    all_goals have K7 : Hid (Kpt (w5.setCell ⟨w.heap.size, 0, none⟩ (.slice av2 nv2 cv2)) W7) := (by rw [← hW7]; exact (Kpt.refl _).drewN 1)
    all_goals have S7 := Lib.hid (S5.out.kpt K7.out)
    all_goals have c8 : World.cell? W7 ⟨w.heap.size + 1, 0, none⟩ = some (.int .i64 (E : Int)) := S7.out.be.cell 0
    all_goals have f8 : World.frozen? W7 ⟨w.heap.size + 1, 0, none⟩ = false := S7.out.be.frozen 0
    all_goals refine wpIn_region_ords hmx [[0, 1, 2, 3, 4], [1, 0, 2, 3, 4], [1, 2, 0, 3, 4]] (by kernel_rfl) ?_
    all_goals rw [hW7]
    all_goals clear hW7 c7 f7
    all_goals intro o ho
    all_goals simp only [List.mem_cons, List.not_mem_nil, or_false] at ho
    all_goals rcases ho with rfl | rfl | rfl
    all_goals simp only [List.filterMap_cons, List.filterMap_nil, List.getElem?_toArray, List.getElem?_cons_zero, List.getElem?_cons_succ]
    all_goals gi_wp2_with (refine ⟨trivial, ?_⟩; gi_at_call 22; refine (CallsIn.inRound l (callsIn_wide.2 (LR.out _))).mono ?_; rintro e w' ⟨rfl, rfl⟩)
    all_goals exact FIN.out _ _ _ (S7.out.put E') ((((kothersU K4.out).trans T5.out).trans (kothersU K7.out)).trans (KeepsOthers.setCell _ _ _)) (((((Below.mono K4.out HB.out.size).trans B5.out).trans (Below.mono K7.out (by have := S5.out.bl.lt; omega))).setCell (p := ⟨w.heap.size + 1, 0, none⟩) (by show w.heap.size ≤ w.heap.size + 1; omega) _)) ((RemK.kpt K4.out).t (R5.out.t ((RemK.kpt K7.out).t (RemK.set S7.out.be (by decide) 0 _))))
  case done =>
    clear bL bE bT k3 ST
    rintro D ys W hD rfl ⟨⟨v, us, hs⟩, hB⟩ hK
    rw [RL_all] at hs
    have c5 : W.cell? ⟨w.heap.size, 0, none⟩ = some v := hs.bl.cell 0
    have c6 : W.cell? ⟨w.heap.size + 1, 0, none⟩ = some (.int .i64 ((ends (recs t) : Nat) : Int)) := hs.be.cell 0
    have S0 := Lib.hid hs
    have HB := Lib.hid hB
    have HK := Lib.hid hK
    have hmx : Try.prog.follows .mixedOrders = true := by kernel_rfl
    clear hs hB hK
    obtain ⟨W1, hW1⟩ : ∃ W1, W.drew = W1 := ⟨_, rfl⟩
    have K1 : Hid (Kpt W W1) := by rw [← hW1]; exact (Kpt.refl W).drewN 1
    have S1 := Lib.hid (S0.out.kpt K1.out)
    have c51 : W1.cell? ⟨w.heap.size, 0, none⟩ = some v := S1.out.bl.cell 0
    have c61 : W1.cell? ⟨w.heap.size + 1, 0, none⟩ = some (.int .i64 ((ends (recs t) : Nat) : Int)) := S1.out.be.cell 0
    have hK1 : Hid (W1.heap[D]? = some (.deferred (some []))) := by unfold Hid; rw [← hW1]; exact HK.out
    gi_wp2
    refine wpIn_region_ords hmx [[0, 1, 2, 3, 4], [0, 2, 1, 3, 4], [1, 0, 2, 3, 4]] (by kernel_rfl) ?_
    rw [hW1]
    clear hW1 c5 c6
    have S4 := Lib.hid (S1.out.own (grownBy_putObj' W1 D (.deferred none)) (fun r e => by cases e; exact ⟨_, hK1.out, rfl⟩))
    have B4 : Hid (Below w.heap.size w (W1.putObj D (.deferred none))) := (HB.out.trans (Below.mono K1.out HB.out.size)).trans (belowK_b (w := w) (Nat.le_refl _) W1 D _ _ (by omega) hK1.out rfl rfl)
    intro o ho
    simp only [List.mem_cons, List.not_mem_nil, or_false] at ho
    rcases ho with rfl | rfl | rfl
    all_goals simp only [List.filterMap_cons, List.filterMap_nil, List.getElem?_toArray, List.getElem?_cons_zero, List.getElem?_cons_succ]
    all_goals gi_wp2
    all_goals refine ⟨by simp, .inl ⟨_, _, rfl, run_takeDeferred hK1.out, ?_⟩⟩
    all_goals exact ⟨_, results_tmp3 rfl _ _ _, v, us, rfl, S4.out.ro, S4.out.ln, S4.out.el, B4.out⟩
  case stop =>
    rintro D c pre W hD hp h _
    exact h.elim

end Go.Proofs.Ytljdffkelocfbaa
