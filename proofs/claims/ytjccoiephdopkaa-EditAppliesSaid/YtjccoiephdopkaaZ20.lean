/- Several texts in one. -/
import Derived.Test.YtjccoiephdopkaaZ12
import Derived.Test.YtjccoiephdopkaaZ13
import Derived.Test.YtjccoiephdopkaaJ1
/- Stage 27: the document's Carry. -/
namespace Go.Proofs.Ytjccoiephdopkaa
set_option linter.unusedVariables false
set_option linter.unusedSimpArgs false
open Go Go.RowKit Go.Shelf
set_option maxRecDepth 100000

/-- What the document's Carry hands back of two changes of as many bytes. -/
def CarrD (l1 l2 : List Sp) (w : World) (e : Ending) (w' : World) : Prop :=
  (carrA (atL (plainM l1)) (atL (plainM l2)) = none ∧ e = .returned (.tuple #[.slice none 0 0, .slice none 0 0, .int .i64 270]) ∧ Below w.heap.size w w') ∨
  (∃ U V, carrA (atL (plainM l1)) (atL (plainM l2)) = some (U, V) ∧ U.length ≤ 300000 ∧ V.length ≤ 300000 ∧
    ((65536 < outA U ∧ e = .returned (.tuple #[.slice none 0 0, .slice none 0 0, .int .i64 3]) ∧ Below w.heap.size w w') ∨
     (outA U ≤ 65536 ∧ ∃ v1 v2, e = .returned (.tuple #[v1, v2, .int .i64 0]) ∧ w'.ownsRow w.heap.size 54 3 v1 (nfA U).length ((nfA U).flatMap encS) ∧ w'.ownsRow w.heap.size 54 3 v2 (nfA V).length ((nfA V).flatMap encS) ∧ Below w.heap.size w w')))
theorem d2_new (W : World) : D2 W W.heap.size (W.heap.size + 1) (W.heap.size + 1 + 1) ((W.alloc (.cells #[.slice none 0 0, .string .empty, .string .empty] 56)).alloc (.cells #[.slice none 0 0, .string .empty, .string .empty] 56)) [] [] := by
  have b1 := (Below.refl W.heap.size W).alloc (Nat.le_refl _) (.cells #[.slice none 0 0, .string .empty, .string .empty] 56)
  have n1 := Blk.new W #[.slice none 0 0, .string .empty, .string .empty] 56
  obtain ⟨W1, hW1⟩ : ∃ X, W.alloc (.cells #[.slice none 0 0, .string .empty, .string .empty] 56) = X := ⟨_, rfl⟩
  have s1 : W1.heap.size = W.heap.size + 1 := by rw [← hW1]; simp
  rw [hW1] at b1 n1 ⊢
  have b2 := b1.alloc b1.size (.cells #[.slice none 0 0, .string .empty, .string .empty] 56)
  have n2 := Blk.new W1 #[.slice none 0 0, .string .empty, .string .empty] 56
  replace n1 := n1.alloc (.cells #[.slice none 0 0, .string .empty, .string .empty] 56)
  rw [s1] at n2
  exact ⟨.slice none 0 0, .slice none 0 0, ⟨n1, World.ownsRow_nil _ _ _ _, by omega, by simp [s1]⟩, ⟨n2, World.ownsRow_nil _ _ _ _, by omega, by simp [s1]⟩, fun q => .inl (fun e => by cases e), by omega, Nat.le_refl _, b2⟩
theorem d2_new' (W : World) {k : Nat} (hk : W.heap.size = k) : D2 W k (k + 1) (k + 1 + 1) ((W.alloc (.cells #[.slice none 0 0, .string .empty, .string .empty] 56)).alloc (.cells #[.slice none 0 0, .string .empty, .string .empty] 56)) [] [] := by
  subst hk; exact d2_new W
theorem frow (x : Sd) {F : Nat} {A : List Atm} (h : SdOk x F A) {p : Nat} (hp : p ≤ F) : ∃ s, x.P[p]? = some s := ⟨_, List.getElem?_eq_getElem (by rw [h.lP]; omega)⟩
theorem drow (x : Sd) {F : Nat} {A : List Atm} (h : SdOk x F A) {p : Nat} (hp : p < F) : ∃ s, x.D[p]? = some s := ⟨_, List.getElem?_eq_getElem (by rw [h.lD]; omega)⟩
theorem brow (x : Sd) {F : Nat} {A : List Atm} (h : SdOk x F A) {p : Nat} (hp : p < F) : ∃ s, x.B[p]? = some s := ⟨_, List.getElem?_eq_getElem (by rw [h.lB]; omega)⟩
end Go.Proofs.Ytjccoiephdopkaa

/- Stage 27: the document's Compose. -/
namespace Go.Proofs.Ytjccoiephdopkaa
set_option linter.unusedVariables false
set_option linter.unusedSimpArgs false
open Go Go.RowKit Go.Shelf
set_option maxRecDepth 100000

/-- What the document's Compose hands back of two changes that may be laid together. -/
def CompD (l1 l2 : List Sp) (w : World) (e : Ending) (w' : World) : Prop :=
  (compA (atL (plainM l1)) (atL (plainM l2)) = none ∧ e = .returned (.tuple #[.slice none 0 0, .int .i64 270]) ∧ Below w.heap.size w w') ∨
  (∃ C v, compA (atL (plainM l1)) (atL (plainM l2)) = some C ∧ e = .returned (.tuple #[v, .int .i64 0]) ∧ w'.ownsRow w.heap.size 54 3 v (nfA C).length ((nfA C).flatMap encS) ∧ Below w.heap.size w w')
theorem SdM.below {W X : World} {bx : Nat} {x : Sd} {F : Nat} (h : SdM W bx x F) (hX : Below W.heap.size W X) : SdM X bx x F := by
  obtain ⟨hl, gP, gD, gB, cP, cD, cB, h1, h2, h3, h4, h5⟩ := h
  exact ⟨Nat.lt_of_lt_of_le hl hX.size, gP, gD, gB, cP, cD, cB, h1.below' hX, h2.below encP_len (by decide) hX, h3.below encO_len (by decide) hX, RowAt.below (k := 1) (fun _ => rfl) (by decide) h4 hX, h5⟩
theorem SdM.hdr {W : World} {bx : Nat} {x : Sd} {F : Nat} (h : SdM W bx x F) : ∃ gP cP gD cD gB cB, ∀ X, Below W.heap.size W X → X.cell? ⟨bx, 0, none⟩ = some (.slice gP (F + 1) cP) ∧ X.cell? ⟨bx, 1, none⟩ = some (.slice gD F cD) ∧ X.cell? ⟨bx, 2, none⟩ = some (.slice gB F cB) := by
  obtain ⟨hl, gP, gD, gB, cP, cD, cB, h1, h2, h3, h4, h5⟩ := h
  exact ⟨gP, cP, gD, cD, gB, cB, fun X hX => ⟨at_below (show W.cell? ⟨bx, 0, none⟩ = some _ from h1.cell 0) hX, at_below (show W.cell? ⟨bx, 1, none⟩ = some _ from h1.cell 1) hX, at_below (show W.cell? ⟨bx, 2, none⟩ = some _ from h1.cell 2) hX⟩⟩
/-- One maker of the document's. -/
def D1 (w0 : World) (B b : Nat) (W : World) (A : List Atm) : Prop := ∃ v, DkA W B b v A ∧ w0.heap.size ≤ B ∧ Below w0.heap.size w0 W
section
variable {w0 W X : World} {B b : Nat} {A : List Atm}
theorem D1.below (h : D1 w0 B b W A) (hb : Below W.heap.size W X) : D1 w0 B b X A := by
  obtain ⟨v, h1, h2, h3⟩ := h
  exact ⟨v, h1.below hb, h2, h3.trans (hb.mono h3.size)⟩
theorem D1.low (h : D1 w0 B b W A) : Below w0.heap.size w0 W := by
  obtain ⟨v, h1, h2, h3⟩ := h
  exact h3
theorem d1_keep (h : D1 w0 B b W A) (n : Nat) (hn : n ≤ 1000000) (hA : A.length ≤ 900000) :
    Calls Try.prog 23 #[.pointer (some ⟨B, 0, none⟩), .int .i64 n] W fun e W' => e = .returned (.tuple #[]) ∧ D1 w0 B b W' (A ++ List.replicate n .K) := by
  obtain ⟨v, h1, h2, h3⟩ := h
  refine (dka_keep h1 n hn hA).mono ?_
  rintro e W' ⟨rfl, v', g1, g2⟩
  exact ⟨rfl, v', g1, h2, g2.belowK h1 h2 h3⟩
theorem d1_drop (h : D1 w0 B b W A) (c : UInt8) (hA : A.length ≤ 900000) :
    Calls Try.prog 22 #[.pointer (some ⟨B, 0, none⟩), .int .u8 c.toNat] W fun e W' => e = .returned (.tuple #[]) ∧ D1 w0 B b W' (A ++ [.D c]) := by
  obtain ⟨v, h1, h2, h3⟩ := h
  refine (dka_drop h1 c hA).mono ?_
  rintro e W' ⟨rfl, v', g1, g2⟩
  exact ⟨rfl, v', g1, h2, g2.belowK h1 h2 h3⟩
theorem d1_end (h : D1 w0 B b W A) (hA : A.length ≤ 900000) :
    Calls Try.prog 24 #[.pointer (some ⟨B, 0, none⟩)] W fun e W' => e = .returned (.tuple #[]) ∧ ∃ v, DkB W' B b v (nfA A) .empty .empty ∧ w0.heap.size ≤ B ∧ Below w0.heap.size w0 W' := by
  obtain ⟨v, h1, h2, h3⟩ := h
  refine (dka_end h1 hA).mono ?_
  rintro e W' ⟨rfl, v', g1, g2⟩
  exact ⟨rfl, v', g1, h2, g2.belowK h1 h2 h3⟩
theorem D1.put (h : D1 w0 B b W A) (s : ByteArray) : D1 w0 B b (W.setCell ⟨B, 1, none⟩ (.string ((fdL A mk0).put ++ s))) (A ++ (bL s).map .P) := by
  obtain ⟨v, h1, h2, h3⟩ := h
  exact ⟨v, h1.put s, h2, (KpD.set h1 1 (.string ((fdL A mk0).put ++ s))).belowK h1 h2 h3⟩
theorem D1.cell (h : D1 w0 B b W A) : W.cell? ⟨B, 1, none⟩ = some (.string (fdL A mk0).put) ∧ W.frozen? ⟨B, 1, none⟩ = false := by
  obtain ⟨v, h1, _⟩ := h
  exact ⟨(DkB.cells h1).2.1, DkB.blk h1 |>.frozen 1⟩
theorem D1.new (W : World) : D1 W W.heap.size (W.heap.size + 1) (W.alloc (.cells #[.slice none 0 0, .string .empty, .string .empty] 56)) [] :=
  ⟨.slice none 0 0, ⟨Blk.new W _ _, World.ownsRow_nil _ _ _ _, by omega, by simp⟩, Nat.le_refl _, (Below.refl W.heap.size W).alloc (Nat.le_refl _) _⟩
end
/-- What is still to be made, from a place on. -/
def mdR (x : Sd) (F p : Nat) : List Md := if p ≤ F then mdS x.P x.D (F - p) p else []
theorem mdR_lt {x : Sd} {F p : Nat} {s : ByteArray} {d : Bool} (hp : p < F) (hs : x.P[p]? = some s) (hd : x.D[p]? = some d) : mdR x F p = putsMd s ++ ((if d = true then [] else [⟨some p, 0⟩]) ++ mdR x F (p + 1)) := by
  obtain ⟨k, hk⟩ : ∃ k, F - p = k + 1 := ⟨F - p - 1, by omega⟩
  have e1 : mdR x F p = mdS x.P x.D (F - p) p := if_pos (by omega)
  have e2 : mdR x F (p + 1) = mdS x.P x.D (F - (p + 1)) (p + 1) := if_pos (by omega)
  rw [e1, e2, hk, md_succ, hs, hd, show F - (p + 1) = k by omega, List.append_assoc]
  rfl
theorem mdR_eq {x : Sd} {F : Nat} {s : ByteArray} (hs : x.P[F]? = some s) : mdR x F F = putsMd s ++ mdR x F (F + 1) := by
  unfold mdR
  rw [if_pos (Nat.le_refl _), if_neg (by omega), Nat.sub_self, md_zero, hs, List.append_nil]
  rfl
theorem mdR_end (x : Sd) (F : Nat) : mdR x F (F + 1) = [] := by unfold mdR; rw [if_neg (by omega)]
theorem putsMd_get {s : ByteArray} {k : Nat} (h : k < s.size) : (putsMd s).drop k = ⟨none, s[k]'h⟩ :: (putsMd s).drop (k + 1) := by
  unfold putsMd
  rw [List.drop_eq_getElem_cons (by rw [List.length_map, bL_len]; exact h), List.getElem_map]
  rfl
theorem putsMd_len (s : ByteArray) : (putsMd s).length = s.size := by unfold putsMd; rw [List.length_map, bL_len]
theorem m_get {W X : World} {o : Option Addr} {L : List Md} {q : Nat} {m : Md} (h : RowAt W encM 2 o L) (hq : L[q]? = some m) : ∃ g off, o = some ⟨g, off, none⟩ ∧ ∀ X, Below W.heap.size W X → X.cell? ⟨g, off + q * 2, none⟩ = some (.int .i64 (atM m)) ∧ X.cell? ⟨g, off + q * 2 + 1, none⟩ = some (.int .u8 m.c.toNat) := by
  obtain ⟨g, off, e, hc⟩ := h q m hq
  have h0 := hc 0 (by decide)
  have h1 := hc 1 (by decide)
  rw [Nat.add_zero] at h0
  exact ⟨g, off, e, fun X hX => ⟨at_below h0 hX, at_below h1 hX⟩⟩
end Go.Proofs.Ytjccoiephdopkaa

/- Stage 27: the document's Plain. -/
namespace Go.Proofs.Ytjccoiephdopkaa
set_option linter.unusedVariables false
set_option linter.unusedSimpArgs false
open Go Go.RowKit Go.Shelf
set_option maxRecDepth 100000

/-- What is said, as it is handed over. -/
structure SdV (W : World) (v : Value) (x : Sd) (F : Nat) (gP gD gB : Option Addr) (cP cD cB : Nat) : Prop where
  eq : v = .agg #[.slice gP (F + 1) cP, .slice gD F cD, .slice gB F cB]
  rP : RowAt W encP 1 gP x.P
  rD : RowAt W encO 1 gD x.D
  rB : RowAt W (fun c => [u8V c]) 1 gB x.B
  lP : F + 1 ≤ cP
  lD : F ≤ cD
  lB : F ≤ cB
theorem SdV.of {W X : World} {b F : Nat} {x : Sd} {oP oD oB : Option Addr} {cP cD cB : Nat} (hx1 : x.P.length = F + 1) (hx2 : x.D.length = F) (hx3 : x.B.length = F) (hP : W.ownsRow b 9 1 (.slice oP (F + 1) cP) (F + 1) (x.P.flatMap encP)) (hD : W.ownsRow b 4 1 (.slice oD F cD) F (x.D.flatMap encO)) (hB : W.ownsRow b 5 1 (.slice oB F cB) F (x.B.map u8V)) (hX : Below W.heap.size W X) : SdV X (.agg #[.slice oP (F + 1) cP, .slice oD F cD, .slice oB F cB]) x F oP oD oB cP cD cB := by
  have e : x.B.map u8V = x.B.flatMap (fun c => [u8V c]) := by induction x.B with
    | nil => rfl
    | cons c l ih => rw [List.map_cons, List.flatMap_cons, ih]; rfl
  rw [e] at hB
  exact ⟨rfl, (RowAt.of_own encP_len hP hx1).below encP_len (by decide) hX, (RowAt.of_own encO_len hD hx2).below encO_len (by decide) hX, RowAt.below (k := 1) (fun _ => rfl) (by decide) (RowAt.of_own (enc := fun c => [u8V c]) (k := 1) (fun _ => rfl) hB hx3) hX, (row_caps hP).1, (row_caps hD).1, (row_caps hB).1⟩
theorem SdV.box {W : World} {v : Value} {x : Sd} {F : Nat} {gP gD gB : Option Addr} {cP cD cB : Nat} (h : SdV W v x F gP gD gB cP cD cB) : SdM (W.alloc (.cells #[.slice gP (F + 1) cP, .slice gD F cD, .slice gB F cB] 43)) W.heap.size x F := by
  have hb := (Below.refl W.heap.size W).alloc (Nat.le_refl _) (.cells #[.slice gP (F + 1) cP, .slice gD F cD, .slice gB F cB] 43)
  exact ⟨by simp, gP, gD, gB, cP, cD, cB, Blk.new W _ _, h.rP.below encP_len (by decide) hb, h.rD.below encO_len (by decide) hb, RowAt.below (k := 1) (fun _ => rfl) (by decide) h.rB hb, h.lP, h.lD, h.lB⟩
/-- What is said from a place on. -/
def frR (x : Sd) (F p : Nat) : List Atm := if p ≤ F then x.fr (F - p) p else []
theorem frR_lt {x : Sd} {F p : Nat} {s : ByteArray} (hp : p < F) (hs : x.P[p]? = some s) : frR x F p = (bL s).map .P ++ (pD x.D x.B p :: frR x F (p + 1)) := by
  have e1 : frR x F p = x.fr (F - p) p := if_pos (by omega)
  have e2 : frR x F (p + 1) = x.fr (F - (p + 1)) (p + 1) := if_pos (by omega)
  rw [e1, e2, fr_lt hp, pP_get hs, show F - p - 1 = F - (p + 1) by omega]
theorem frR_eq {x : Sd} {F : Nat} {s : ByteArray} (hs : x.P[F]? = some s) : frR x F F = (bL s).map .P := by
  unfold frR
  rw [if_pos (Nat.le_refl _), Nat.sub_self, fr_end, pP_get hs]
theorem frR_end (x : Sd) (F : Nat) : frR x F (F + 1) = [] := by unfold frR; rw [if_neg (by omega)]
theorem D1.froz {w0 W X : World} {B b : Nat} {A : List Atm} (h : D1 w0 B b W A) (hX : Below W.heap.size W X) (o : Nat) : X.frozen? ⟨B, o, none⟩ = false := by
  obtain ⟨v, h1, _⟩ := h.below hX
  exact DkB.blk h1 |>.frozen o
set_option maxHeartbeats 2000000 in
theorem plainD_any (v : Value) (x : Sd) (F : Nat) (A : List Atm) (gP gD gB : Option Addr) (cP cD cB : Nat) (hF : F ≤ 65536) (hA : A.length ≤ 200000) (hx : SdOk x F A) (w : World) (hv : SdV w v x F gP gD gB cP cD cB) :
    Calls Try.prog 13 #[v] w fun e w' => ∃ u, e = .returned u ∧ w'.ownsRow w.heap.size 54 3 u (nfA A).length ((nfA A).flatMap encS) ∧ Below w.heap.size w w' := by
  obtain rfl := hv.eq
  have hbox := hv.box
  have hb0 := (Below.refl w.heap.size w).alloc (Nat.le_refl _) (.cells #[.slice gP (F + 1) cP, .slice gD F cD, .slice gB F cB] 43)
  obtain ⟨WM, hWM⟩ : ∃ Z, w.alloc (.cells #[.slice gP (F + 1) cP, .slice gD F cD, .slice gB F cB] 43) = Z := ⟨_, rfl⟩
  have HW := Lib.hid hWM
  rw [hWM] at hbox hb0
  have HX := Lib.hid (And.intro hbox (And.intro hx (And.intro hb0 hA)))
  have HD0 := Lib.hid (D1.new WM)
  clear hv hbox hb0 hWM hx hA
  go_enter Try.func13, Try.ntmps13
  go_wp2
  rw [HW.out]
  obtain ⟨bx, hbx⟩ : ∃ b, w.heap.size = b := ⟨_, rfl⟩
  have hsz : WM.heap.size = bx + 1 := by rw [← HW.out, ← hbx]; simp
  have HBX := Lib.hid (And.intro hbx hsz)
  have HD1 : D1 WM (bx + 1) (bx + 1 + 1) (WM.alloc (.cells #[.slice none 0 0, .string .empty, .string .empty] 56)) [] := by rw [← hsz]; exact HD0.out
  have HD0 := Lib.hid HD1
  clear HD1
  rw [hbx] at HX
  rw [hbx]
  obtain ⟨hgP, hcP, hgD, hcD, hgB, hcB, hlenx⟩ := HX.out.1.hdr
  have Hlen := Lib.hid hlenx
  clear hbx hlenx hsz
  go_loopw [4] (fun pv W => ∃ (p : Nat) (Ad : List Atm), pv = .int .i64 p ∧ p ≤ F + 1 ∧ D1 WM (bx + 1) (bx + 1 + 1) W Ad ∧ Ad ++ frR x F p = A) (fun pv _ => F + 1 - (intOf pv).toNat)
  case atStart => exact ⟨0, [], rfl, by omega, HD0.out, by show frR x F 0 = A; unfold frR; rw [if_pos (Nat.zero_le _), Nat.sub_zero]; exact HX.out.2.1.fr⟩
  case round =>
    obtain ⟨p, Ad, rfl, hp, hD, hAd⟩ := hrel
    have hlA : Ad.length ≤ 200000 := by
      have h1 := congrArg List.length hAd
      rw [List.length_append] at h1
      have := HX.out.2.2.2
      omega
    obtain ⟨h0c, h1c, h2c⟩ := Hlen.out _ hD.low
    by_cases hlt : p < F + 1
    · obtain ⟨s, hs⟩ := frow x HX.out.2.1 (show p ≤ F by omega)
      obtain ⟨g2, r2, m2, hx1⟩ := HX.out.1.allP hs
      obtain ⟨ay, az⟩ := hx1 _ hD.low
      have lt1 : (p : Int) < (F : Int) + 1 := by omega
      have jp : IntKind.i64.wrap ((p : Int) + 1) = ((p + 1 : Nat) : Int) := by rw [IntWalk.i64_in _ (by omega)]; omega
      have pn := (dk_bd Ad).2.1
      obtain ⟨pu, hpu⟩ : ∃ pu, (fdL Ad mk0).put = pu := ⟨_, rfl⟩
      rw [hpu] at pn
      have hsz : s.size ≤ 200000 := by
        have h1 := congrArg List.length hAd
        have h2 := HX.out.2.2.2
        rw [List.length_append] at h1
        by_cases h : p < F
        · rw [frR_lt h hs, List.length_append, List.length_map, bL_len] at h1; omega
        · obtain rfl : p = F := by omega
          rw [frR_eq hs, List.length_map, bL_len] at h1; omega
      have hys : pu.size + s.size ≤ 9223372036854775807 := by omega
      have kc := hD.cell.1
      rw [hpu] at kc
      have kfa : ∀ X, Below wr.heap.size wr X → X.frozen? ⟨bx + 1, 1, none⟩ = false := fun X hX => hD.froz hX 1
      have HD := Lib.hid hD
      have HS := Lib.hid (And.intro hs hAd)
      have HPU := Lib.hid hpu
      clear hD hs hAd hpu hx1 h1c h2c
      go_wp2
      refine wp_region_noPanic ?_
      refine wp_region_g (S := untilG [9] (fun X => Below wr.heap.size wr X)) (by kernel_rfl) ?_
      obtain ⟨X21, hX0⟩ : ∃ Z, wr.drew = Z := ⟨_, rfl⟩
      have T0 : Below wr.heap.size wr X21 := hX0 ▸ (Below.refl wr.heap.size wr).drew
      rw [hX0]
      clear hX0
      refine wpAnyG_take [0, 1, 7, 9] (i := 0) (v := (.pointer (some ⟨bx + 1, 1, none⟩))) rfl (by kernel_rfl) (by kernel_rfl) (by kernel_rfl) (by kernel_rfl) (by kernel_rfl) (by kernel_rfl) (by kernel_rfl) (by kernel_rfl) (fun _ _ _ h => h) (Or.inl ⟨by rfl, ?hy⟩) T0 ?_
      case hy =>
        intro X hX
        go_simp
      try simp only [Act.put, List.getElem_toArray, List.getElem_cons_zero, List.getElem_cons_succ, List.setIfInBounds_toArray, List.set_cons_zero, List.set_cons_succ]
      refine wpAnyG_take [1, 7, 9] (i := 1) (v := (.string pu)) rfl (by kernel_rfl) (by kernel_rfl) (by kernel_rfl) (by kernel_rfl) (by kernel_rfl) (by kernel_rfl) (by kernel_rfl) (by kernel_rfl) (fun _ _ _ h => h) (Or.inl ⟨by rfl, ?hy⟩) T0 ?_
      case hy =>
        intro X hX
        have e0 := at_below kc hX
        go_simp
      try simp only [Act.put, List.getElem_toArray, List.getElem_cons_zero, List.getElem_cons_succ, List.setIfInBounds_toArray, List.set_cons_zero, List.set_cons_succ]
      refine wpAnyG_take [2, 3, 5, 6, 7, 9] (i := 2) (v := (.pointer (some ⟨bx, 0, none⟩))) rfl (by kernel_rfl) (by kernel_rfl) (by kernel_rfl) (by kernel_rfl) (by kernel_rfl) (by kernel_rfl) (by kernel_rfl) (by kernel_rfl) (fun _ _ _ h => h) (Or.inl ⟨by rfl, ?hy⟩) T0 ?_
      case hy =>
        intro X hX
        go_simp
      try simp only [Act.put, List.getElem_toArray, List.getElem_cons_zero, List.getElem_cons_succ, List.setIfInBounds_toArray, List.set_cons_zero, List.set_cons_succ]
      refine wpAnyG_take [3, 5, 6, 7, 9] (i := 3) (v := (.slice (some ⟨g2, r2, none⟩) (F + 1) m2)) rfl (by kernel_rfl) (by kernel_rfl) (by kernel_rfl) (by kernel_rfl) (by kernel_rfl) (by kernel_rfl) (by kernel_rfl) (by kernel_rfl) (fun _ _ _ h => h) (Or.inl ⟨by rfl, ?hy⟩) T0 ?_
      case hy =>
        intro X hX
        have e0 := at_below ay hX
        go_simp
      try simp only [Act.put, List.getElem_toArray, List.getElem_cons_zero, List.getElem_cons_succ, List.setIfInBounds_toArray, List.set_cons_zero, List.set_cons_succ]
      refine wpAnyG_take [4, 5, 6, 7, 9] (i := 4) (v := (.int .i64 p)) rfl (by kernel_rfl) (by kernel_rfl) (by kernel_rfl) (by kernel_rfl) (by kernel_rfl) (by kernel_rfl) (by kernel_rfl) (by kernel_rfl) (fun _ _ _ h => h) (Or.inl ⟨by rfl, ?hy⟩) T0 ?_
      case hy =>
        intro X hX
        go_simp
      try simp only [Act.put, List.getElem_toArray, List.getElem_cons_zero, List.getElem_cons_succ, List.setIfInBounds_toArray, List.set_cons_zero, List.set_cons_succ]
      refine wpAnyG_take [5, 6, 7, 9] (i := 5) (v := (.pointer (some ⟨g2, r2 + p, none⟩))) rfl (by kernel_rfl) (by kernel_rfl) (by kernel_rfl) (by kernel_rfl) (by kernel_rfl) (by kernel_rfl) (by kernel_rfl) (by kernel_rfl) (fun _ _ _ h => h) (Or.inl ⟨by rfl, ?hy⟩) T0 ?_
      case hy =>
        intro X hX
        (go_simp; try rfl)
      try simp only [Act.put, List.getElem_toArray, List.getElem_cons_zero, List.getElem_cons_succ, List.setIfInBounds_toArray, List.set_cons_zero, List.set_cons_succ]
      refine wpAnyG_take [6, 7, 9] (i := 6) (v := (.string s)) rfl (by kernel_rfl) (by kernel_rfl) (by kernel_rfl) (by kernel_rfl) (by kernel_rfl) (by kernel_rfl) (by kernel_rfl) (by kernel_rfl) (fun _ _ _ h => h) (Or.inl ⟨by rfl, ?hy⟩) T0 ?_
      case hy =>
        intro X hX
        have e0 := at_below az hX
        go_simp
      try simp only [Act.put, List.getElem_toArray, List.getElem_cons_zero, List.getElem_cons_succ, List.setIfInBounds_toArray, List.set_cons_zero, List.set_cons_succ]
      refine wpAnyG_take [7, 9] (i := 7) (v := (.string (pu ++ s))) rfl (by kernel_rfl) (by kernel_rfl) (by kernel_rfl) (by kernel_rfl) (by kernel_rfl) (by kernel_rfl) (by kernel_rfl) (by kernel_rfl) (fun _ _ _ h => h) (Or.inl ⟨by rfl, ?hy⟩) T0 ?_
      case hy =>
        intro X hX
        go_simp
      try simp only [Act.put, List.getElem_toArray, List.getElem_cons_zero, List.getElem_cons_succ, List.setIfInBounds_toArray, List.set_cons_zero, List.set_cons_succ]
      have kc2 := at_below kc T0
      have kf2 : X21.frozen? ⟨bx + 1, 1, none⟩ = false := kfa _ T0
      refine wpAnyG_all (rs := [8]) (by kernel_rfl) (by simp) ?_
      intro i hi
      simp only [List.mem_cons, List.not_mem_nil, or_false] at hi
      subst hi
      refine wpOp_now rfl rfl ?_
      go_simp
      refine ⟨fun _ => T0, ?_⟩
      try simp only [Act.put, List.getElem_toArray, List.getElem_cons_zero, List.getElem_cons_succ, List.setIfInBounds_toArray, List.set_cons_zero, List.set_cons_succ]
      refine wpAnyG_all (rs := [9]) (by kernel_rfl) (by simp) ?_
      intro i hi
      simp only [List.mem_cons, List.not_mem_nil, or_false] at hi
      subst hi
      refine wpOp_now rfl rfl ?_
      go_simp
      refine ⟨fun h => (nomatch (show (false : Bool) = true from h)), ?_⟩
      refine wpAnyG_done (by kernel_rfl) ?_ _
      refine NoPanic.normal ?_
      have hE := HD.out.below T0 |>.put s
      rw [HPU.out] at hE
      obtain ⟨Y1, hY1⟩ : ∃ Z, X21.setCell ⟨bx + 1, 1, none⟩ (.string (pu ++ s)) = Z := ⟨_, rfl⟩
      rw [hY1] at hE ⊢
      have HE := Lib.hid hE
      clear hE hY1 T0 kc kfa kc2 kf2 ay az h0c
      obtain ⟨h0c, h1c, h2c⟩ := Hlen.out _ HE.out.low
      by_cases hF2 : p < F
      · obtain ⟨d, hd⟩ := drow x HX.out.2.1 hF2
        obtain ⟨g3, r3, m3, hx3⟩ := HX.out.1.allD hd
        obtain ⟨d1, d2⟩ := hx3 _ HE.out.low
        clear h1c h2c
        have lt2 : (p : Int) < (F : Int) := by omega
        have hfr := frR_lt hF2 HS.out.1
        cases d with
        | true =>
          obtain ⟨c, hc⟩ : ∃ c, x.B[p]? = some c := ⟨_, List.getElem?_eq_getElem (by rw [HX.out.2.1.lB]; exact hF2)⟩
          obtain ⟨g4, r4, m4, hx4⟩ := HX.out.1.allB hc
          obtain ⟨b1, b2⟩ := hx4 _ HE.out.low
          rw [pD_yes hd hc] at hfr
          have HFR := Lib.hid hfr
          clear hfr hd hc hx3 hx4
          go_wp2_with (fail)
          refine (d1_drop HE.out c (by simp only [List.length_append, List.length_map, bL_len]; omega)).mono ?_
          rintro e V ⟨rfl, hV⟩
          have HV := Lib.hid hV
          clear hV
          go_wp2
          go_roundw
          case rel => exact ⟨p + 1, _, by go_num, by omega, HV.out, by rw [← HS.out.2, HFR.out]; simp⟩
          case measure => simp [intOf] <;> omega
        | false =>
          rw [pD_no hd] at hfr
          have HFR := Lib.hid hfr
          clear hfr hd hx3
          go_wp2_with (fail)
          refine (d1_keep HE.out 1 (by omega) (by simp only [List.length_append, List.length_map, bL_len]; omega)).mono ?_
          rintro e V ⟨rfl, hV⟩
          have HV := Lib.hid hV
          clear hV
          go_wp2
          go_roundw
          case rel => exact ⟨p + 1, _, by go_num, by omega, HV.out, by rw [← HS.out.2, HFR.out]; simp⟩
          case measure => simp [intOf] <;> omega
      · obtain rfl : p = F := by omega
        have hfr := frR_eq HS.out.1
        have HFR := Lib.hid hfr
        clear hfr
        go_wp2
        go_roundw
        case rel => exact ⟨p + 1, _, by go_num, by omega, HE.out, by rw [← HS.out.2, HFR.out, frR_end]; simp⟩
        case measure => simp [intOf] <;> omega
    · obtain rfl : p = F + 1 := by omega
      rw [frR_end, List.append_nil] at hAd
      subst hAd
      have lt1 : ¬ (((F + 1 : Nat) : Int) < (F : Int) + 1) := by omega
      have HD := Lib.hid hD
      clear hD
      go_wp2_with (fail)
      refine (d1_end HD.out (by omega)).mono ?_
      rintro e V ⟨rfl, u, h1, h2, h3⟩
      obtain ⟨c0, c1, c2⟩ := DkB.cells h1
      have hu := own_base h1.ro (show w.heap.size ≤ bx + 1 + 1 by have := HBX.out.1; omega)
      have HU := Lib.hid (And.intro hu (HX.out.2.2.1.trans (h3.mono (HBX.out.1 ▸ HX.out.2.2.1.size))))
      clear h1 h2 h3 hu
      go_wp2
      go_ret
      refine ⟨_, rfl, HU.out.1, ?_⟩
      rw [HBX.out.1]
      exact HU.out.2
    end Go.Proofs.Ytjccoiephdopkaa
