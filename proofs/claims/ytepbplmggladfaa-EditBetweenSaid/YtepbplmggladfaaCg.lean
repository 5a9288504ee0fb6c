/- A region with several orders, walked to its end once: what holds behind it hangs on values. -/
import Derived.Test.YtepbplmggladfaaGn
namespace Go.Proofs.Ytepbplmggladfaa
open Go

section
variable {P : Program} {ops : Array Oper} {Q : Exit → Act → World → Prop} {md : Region.Mode}
/-- The condition may become stronger on the way. -/
theorem wpAnyG_strong {S S' : Array Bool → World → Prop} (h : ∀ l w, S' l w → S l w) : ∀ (fuel : Nat) (listed : Array Bool) (a : Act) (w : World), wpAnyG P md ops Q S' fuel listed a w → wpAnyG P md ops Q S fuel listed a w
  | 0, _, _, _, H => H
  | fuel + 1, _, _, _, H => ⟨H.1, fun i hi => wpOp_mono (fun a' w' h' => ⟨h _ _ h'.1, wpAnyG_strong h fuel _ a' w' h'.2⟩) (H.2 i hi)⟩
theorem wpAnyG_more {ks : List Nat} {T T' : World → Prop} (h : ∀ w, T' w → T w) {fuel : Nat} {listed : Array Bool} {a : Act} {w : World} (H : wpAnyG P md ops Q (untilG ks T') fuel listed a w) : wpAnyG P md ops Q (untilG ks T) fuel listed a w :=
  wpAnyG_strong (fun _ _ h' hk => h _ (h' hk)) fuel listed a w H
end

/-- The frame with these slots filled. -/
def putsG (a : Act) (l : List (Nat × Value)) : Act := { a with tmps := l.foldl (fun t p => t.setIfInBounds p.1 p.2) a.tmps }
def CutV {α : Type} (T : α → World → Prop) (L : α → List (Nat × Value)) (a : Act) (e : Exit) (a' : Act) (w' : World) : Prop := e = .normal ∧ ∃ v, a' = putsG a (L v) ∧ T v w'
/-- A piece of code that ends in one way but for some values: the walk goes on once. -/
theorem wp_cutV {P : Program} {c : Code} {Q : Exit → Act → World → Prop} {a : Act} {w : World} {α : Type} (T : α → World → Prop) (L : α → List (Nat × Value)) (h1 : c.wp P (CutV T L a) a w) (h2 : ∀ v w', T v w' → Q .normal (putsG a (L v)) w') : c.wp P Q a w :=
  Code.wp_mono (fun _ _ _ ⟨he, v, ha, ht⟩ => he ▸ ha ▸ h2 v _ ht) h1
end Go.Proofs.Ytepbplmggladfaa
