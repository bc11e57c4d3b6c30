/-
  A region that draws its order: one walk for each order that there is, inside a fence and in a round too.
-/
import Derived.OwnWalkIn
import Derived.RangeFuncWrites
import Derived.Test.YtljdffkelocfbaaRows
namespace Go.Proofs.Ytljdffkelocfbaa
open Go.RowKit
set_option linter.unusedVariables false

/-- all orders in which a region's operations may come -/
def ordsGo (m : Region.Mode) (ops : Array Oper) : Nat → Array Bool → List (List Nat)
  | 0, _ => [[]]
  | fuel + 1, listed =>
    match Region.ready m ops listed with
    | [] => [[]]
    | rs => rs.flatMap fun i => (ordsGo m ops fuel (listed.setIfInBounds i true)).map (i :: ·)
theorem ords_go (m : Region.Mode) (ops : Array Oper) : ∀ (fuel t : Nat) (listed : Array Bool) (acc : List Nat), ∃ o ∈ ordsGo m ops fuel listed, Region.linearise.go m ops fuel t listed acc = acc.reverse ++ o := by
  intro fuel
  induction fuel with
  | zero => intro t listed acc; exact ⟨[], by simp [ordsGo], by simp [Region.linearise.go]⟩
  | succ fuel ih =>
    intro t listed acc
    have e : Region.linearise.go m ops (fuel + 1) t listed acc = (match (Region.ready m ops listed)[t % (Region.ready m ops listed).length]? with
      | some i => Region.linearise.go m ops fuel (t / (Region.ready m ops listed).length) (listed.setIfInBounds i true) (i :: acc)
      | none => acc.reverse) := rfl
    rw [e]
    unfold ordsGo
    cases hr : Region.ready m ops listed with
    | nil => exact ⟨[], by simp, by simp⟩
    | cons r rs =>
      have hlt : t % (r :: rs).length < (r :: rs).length := Nat.mod_lt _ (by simp)
      rw [List.getElem?_eq_getElem hlt]
      obtain ⟨o, ho, h2⟩ := ih (t / (r :: rs).length) (listed.setIfInBounds (r :: rs)[t % (r :: rs).length] true) ((r :: rs)[t % (r :: rs).length] :: acc)
      refine ⟨(r :: rs)[t % (r :: rs).length] :: o, ?_, ?_⟩
      · exact List.mem_flatMap.2 ⟨_, List.getElem_mem hlt, List.mem_map.2 ⟨o, ho, rfl⟩⟩
      · show Region.linearise.go m ops fuel (t / (r :: rs).length) _ _ = _
        rw [h2]; simp
theorem wpOps_list {F : Fence} {n : Nat} {P : Program} {ops : Array Oper} {Q : Exit → Act → World → Prop} : ∀ (o : List Nat) (a : Act) (w : World), wpListIn F n P ops Q (o.filterMap fun i => ops[i]?) a w → wpOpsIn F n P ops Q o a w
  | [], _, _, h => h
  | i :: rest, a, w, h => by
    unfold wpOpsIn
    rw [List.filterMap_cons] at h
    split at h
    · next e => simp only [e]; exact wpOps_list rest a w h
    · next q e =>
      simp only [e]
      unfold wpListIn at h
      split at h
      · next hw => rw [if_pos hw]; exact Oper.wpIn_mono (fun a' w' => wpOps_list rest a' w') h
      · next hw => rw [if_neg hw]; exact ⟨h.1, wpOps_list rest _ _ h.2⟩
/-- a region that draws: one walk for each order -/
theorem wpIn_region_ords {F : Fence} {n : Nat} {P : Program} {id : Nat} {ops : Array Oper} {Q : Exit → Act → World → Prop} {a : Act} {w : World} (hm : P.follows .mixedOrders = true) (os : List (List Nat)) (ho : ordsGo .any ops ops.size (Array.replicate ops.size false) = os)
    (h : ∀ o ∈ os, wpListIn F n P ops Q (o.filterMap fun i => ops[i]?) a w.drew) : (Code.region id ops true).wpIn F n P Q a w := by
  refine wpIn_region_draw fun t => ?_
  have e : Region.schedule (P.follows .mixedOrders) ops t = Region.linearise.go .any ops ops.size t (Array.replicate ops.size false) [] := by
    unfold Region.schedule
    rw [hm]; rfl
  rw [e]
  obtain ⟨o, h1, h2⟩ := ords_go .any ops ops.size t (Array.replicate ops.size false) []
  rw [h2]
  exact wpOps_list _ _ _ (h o (by rw [← ho]; exact h1))

theorem wpIn_exits {F : Fence} {n : Nat} {P : Program} {o : Oper} {a : Act} {w : World} {K : Act → World → Prop} {Q Q' : Exit → Act → World → Prop} (h : o.wpIn F n P a w K Q') (hp : ∀ c a w, Q' (.panic c) a w → Q (.panic c) a w) (hl : LetsOut Q' → LetsOut Q) : o.wpIn F n P a w K Q := by
  refine ⟨h.1, ?_⟩
  have h2 := h.2
  generalize (o.semAt F.round a.eval).run P w = r at h2 ⊢
  unfold Oper.uponIn at h2 ⊢
  split at h2
  · exact h2
  · exact h2
  · exact h2
  · refine ⟨h2.1, h2.2.mono fun e w'' q => ?_⟩
    cases e with
    | returned v => exact q
    | panicked c => exact hp _ _ _ q
    | outgrown => exact hl q
  · exact h2
  · refine ⟨h2.1, h2.2.mono fun e w'' q => ?_⟩
    cases e with
    | returned v => exact q
    | panicked c => exact hp _ _ _ q
    | outgrown => exact hl q
  · exact hp _ _ _ h2
  · exact h2
/-- behind some operations of a list the others -/
def cutQ (F : Fence) (n : Nat) (P : Program) (ops : Array Oper) (Q : Exit → Act → World → Prop) (l : List Oper) : Exit → Act → World → Prop
  | .normal, a, w => wpListIn F n P ops Q l a w
  | e, a, w => Q e a w
theorem wpListIn_app {F : Fence} {n : Nat} {P : Program} {ops : Array Oper} {Q : Exit → Act → World → Prop} {l2 : List Oper} : ∀ (l1 : List Oper) (a : Act) (w : World), wpListIn F n P ops (cutQ F n P ops Q l2) l1 a w → wpListIn F n P ops Q (l1 ++ l2) a w
  | [], _, _, h => h
  | o :: l1, a, w, h => by
    have h' : (if Region.wanted o (yielded ops a.tmps) then o.wpIn F n P a w (wpListIn F n P ops (cutQ F n P ops Q l2) l1) (cutQ F n P ops Q l2) else (∀ f, o.about P w a.eval = some f → F.fn f) ∧ wpListIn F n P ops (cutQ F n P ops Q l2) l1 (a.put o.dst undef) w) := h
    show (if Region.wanted o (yielded ops a.tmps) then o.wpIn F n P a w (wpListIn F n P ops Q (l1 ++ l2)) Q else (∀ f, o.about P w a.eval = some f → F.fn f) ∧ wpListIn F n P ops Q (l1 ++ l2) (a.put o.dst undef) w)
    split at h'
    · next hw =>
      rw [if_pos hw]
      have h2 : o.wpIn F n P a w (wpListIn F n P ops Q (l1 ++ l2)) (cutQ F n P ops Q l2) := Oper.wpIn_mono (fun a' w' => wpListIn_app l1 a' w') h'
      exact wpIn_exits h2 (fun c a w q => q) (fun q => q)
    · next hw => rw [if_neg hw]; exact ⟨h'.1, wpListIn_app l1 _ _ h'.2⟩
theorem wpListIn_cut {F : Fence} {n : Nat} {P : Program} {ops : Array Oper} {Q : Exit → Act → World → Prop} {l : List Oper} {a : Act} {w : World} (k : Nat) (h : wpListIn F n P ops (cutQ F n P ops Q (l.drop k)) (l.take k) a w) : wpListIn F n P ops Q l a w := by
  have := wpListIn_app (Q := Q) (l2 := l.drop k) (l.take k) a w h
  rwa [List.take_append_drop] at this

end Go.Proofs.Ytljdffkelocfbaa
