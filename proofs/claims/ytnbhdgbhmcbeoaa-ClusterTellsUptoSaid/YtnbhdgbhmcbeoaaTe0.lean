/- ClusterTells: edges; a loop over Back without a variable. -/
import Derived.Test.YtnbhdgbhmcbeoaaDs
import Derived.Test.YtnbhdgbhmcbeoaaClb
namespace Go.Proofs.Ytnbhdgbhmcbeoaa
set_option linter.unusedVariables false
set_option linter.unusedSimpArgs false
open Go Go.RowKit Go.Shelf
set_option maxRecDepth 100000

theorem atF_mem {s : ByteArray} {x : Int} {c : Cel} (h : atF s x = some c) : c ∈ cellsL s := by
  unfold atF at h
  split at h
  · cases h
  · exact List.mem_of_find?_eq_some h
theorem ed_same (s : ByteArray) (x : Int) : edF s x = edD s x := by
  unfold edF edD
  by_cases hs : x = (s.size : Int)
  · rw [decide_eq_true hs, show (x == (s.size : Int)) = true from beq_iff_eq.2 hs, Bool.true_or, Bool.or_true]
  · rw [decide_eq_false hs, show (x == (s.size : Int)) = false from beq_eq_false_iff_ne.2 hs, Bool.false_or, Bool.or_false]
    cases ha : (cellsL s).any (fun c => (c.1 : Int) == x) with
    | true =>
      obtain ⟨c, hc, he⟩ := List.any_eq_true.1 ha
      have he := beq_iff_eq.1 he
      obtain ⟨a, b, hab⟩ := List.append_of_mem hc
      have hpre : a ++ [c] <+: cellsL s := ⟨b, by rw [hab]; simp⟩
      have hd := due_cell hpre
      have := at_own hpre (Nat.le_refl c.1) hd.2.1
      rw [he] at this
      rw [this]
      exact decide_eq_true he
    | false =>
      cases hf : atF s x with
      | none => rfl
      | some c =>
        have := List.any_eq_false.1 ha c (atF_mem hf)
        exact decide_eq_false (fun h => this (beq_iff_eq.2 h))

/-- A loop 'for range cluster.Back(s)'. -/
theorem range_back0 {g : Operand} {q : Tmp} {assign body : Code} {Q : Exit → Act → World → Prop} {a : Act} {w : World} (s : ByteArray) (hs : s.size ≤ 2147483647) (B : Nat)
    (hB : Boxed w B 9 (.string s)) (hg : a.eval g = .func (.func 44) #[] #[.pointer (some ⟨B, 0, none⟩)])
    (I : List Cel → World → Prop) (Ix : Code → List Cel → World → Prop) (hI : AbX w.heap.size FrT I) (hIx : ∀ c, AbX w.heap.size FrT (Ix c)) (h0 : I [] w)
    (hassign : ∀ (l : Nat) (x : Cel) (W : World) (K : Act → World → Prop), K { tmps := a.tmps.setIfInBounds q (celV x), defers := [] } W →
      assign.wpIn (Fence.wide.inRound l) 10 Try.prog (Exit.then K (fun _ _ _ => False)) { tmps := a.tmps.setIfInBounds q (celV x), defers := [] } W)
    (hbody : ∀ (l : Nat) (pre : List Cel) (x : Cel) (W : World), I pre W → pre.length < s.size + 2 → pre ++ [x] <+: revL s →
      body.wpIn (Fence.wide.inRound l) 10 Try.prog (ownPostG w.heap.size (KpR (w.heap.size + 2)) I Ix (pre ++ [x]) W) { tmps := a.tmps.setIfInBounds q (celV x), defers := [] } W)
    (hdone : ∀ (D : Nat) (W : World), w.heap.size ≤ D → I (revL s) W → W.heap[D]? = some (.deferred (some [])) → Q .normal { a with defers := { target := .collected D, args := #[] } :: a.defers } W)
    (hstop : ∀ (D : Nat) (c : Code) (pre : List Cel) (W : World), w.heap.size ≤ D → pre <+: revL s → Ix c pre W → W.heap[D]? = some (.deferred (some [])) → c.wpIn Fence.wide 12 Try.prog Q { a with defers := { target := .collected D, args := #[] } :: a.defers } W) :
    (Code.rangeFunc g #[q] assign body).wpIn Fence.wide 12 Try.prog Q a w := by
  have enters := enters_of Try.func44 (by kernel_rfl) rfl
  have putK : ∀ (W : World) (o o' : Obj), W.heap[w.heap.size + 1]? = some o → o.isCells = false → o.isWalk = false → KpR (w.heap.size + 2) W (W.putObj (w.heap.size + 1) o') := fun W o o' h _ hw =>
    ⟨KeepsWalks.putObj _ h hw, fun k hk _ => World.putObj_heap_other (by omega)⟩
  refine wpIn_range_z (n := 12) (gf := 44) (lb := #[.pointer (some ⟨B, 0, none⟩)]) (encs := fun x : Cel => #[celV x]) (Kp := KpR (w.heap.size + 2)) (Fr := FrT) (S := fun xs => xs = revL s) (Sp := fun pre => pre <+: revL s) (Due := fun pre x => pre ++ [x] <+: revL s) (N := s.size + 2) rfl (by omega) hg trivial (fun _ _ => enters _ _)
    (back_seq s hs B w hB) (fun _ _ _ _ _ => trivial) kpR_t putK (fun _ => rfl)
    I Ix hI hIx h0
    (fun x a' W => a' = { tmps := a.tmps.setIfInBounds q (celV x), defers := [] }) ?_ ?_ ?_ ?_ ?_
  · rintro x a' _ W W' row h hg hr
    exact h
  · rintro l pre x W K hi hK
    have e0 : ((#[q].zip (#[celV x] : Array Value)).foldl (fun t (p, v) => t.setIfInBounds p v) a.tmps) = a.tmps.setIfInBounds q (celV x) := by simp
    rw [e0]
    exact hassign l x W K (hK _ _ (KeepsFrom.refl _ _) ⟨KeepsWalks.refl _, fun _ _ _ => rfl⟩ hi rfl)
  · rintro l pre x a' W _ hi rfl hlen hdue
    exact hbody l pre x W hi hlen hdue
  · rintro D xs W hD rfl hi hk
    exact hdone D W hD hi hk
  · exact hstop
end Go.Proofs.Ytnbhdgbhmcbeoaa
