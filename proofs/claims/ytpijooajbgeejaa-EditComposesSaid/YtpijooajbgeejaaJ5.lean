/- Stage 27: the document's Carry, place by place: mathematics. -/
import Derived.Test.YtpijooajbgeejaaJ4
namespace Go.Proofs.Ytpijooajbgeejaa
set_option linter.unusedVariables false
set_option linter.unusedSimpArgs false
open Go Go.RowKit Go.Shelf
set_option maxRecDepth 100000

/-- What Say has told of a change: puts, drops, bytes. -/
structure Sd where
  P : List ByteArray
  D : List Bool
  B : List UInt8
def Sd.fr (x : Sd) (n p : Nat) : List Atm := frS x.P x.D x.B n p
structure SdOk (x : Sd) (F : Nat) (A : List Atm) : Prop where
  lP : x.P.length = F + 1
  lD : x.D.length = F
  lB : x.B.length = F
  fr : x.fr F 0 = A
/-- How the document's loop stands at a place. -/
structure CdP (X0 Y0 : List Atm) (x y : Sd) (F p : Nat) (U V : List Atm) (z : Nat) : Prop where
  le : p ≤ F
  cp : carrA X0 Y0 = mapU U V (carrA (x.fr (F - p) p) (y.fr (F - p) p))
  sz : z = outA U
  lu : U.length + (x.fr (F - p) p).length + (y.fr (F - p) p).length ≤ 300000
  lv : V.length + (x.fr (F - p) p).length + (y.fr (F - p) p).length ≤ 300000
/-- Behind the puts of a place. -/
structure CdQ (X0 Y0 : List Atm) (x y : Sd) (F p : Nat) (U V : List Atm) (z : Nat) : Prop where
  cp : carrA X0 Y0 = mapU U V (if p < F then carrA (pD x.D x.B p :: x.fr (F - p - 1) (p + 1)) (pD y.D y.B p :: y.fr (F - p - 1) (p + 1)) else some ([], []))
  sz : z = outA U
  lu : U.length + (if p < F then (x.fr (F - p - 1) (p + 1)).length + (y.fr (F - p - 1) (p + 1)).length + 2 else 0) ≤ 300000
  lv : V.length + (if p < F then (x.fr (F - p - 1) (p + 1)).length + (y.fr (F - p - 1) (p + 1)).length + 2 else 0) ≤ 300000
theorem fr_end (x : Sd) (p : Nat) : x.fr 0 p = pP x.P p := rfl
theorem fr_lt {x : Sd} {F p : Nat} (h : p < F) : x.fr (F - p) p = pP x.P p ++ pD x.D x.B p :: x.fr (F - p - 1) (p + 1) := by
  obtain ⟨k, hk⟩ : ∃ k, F - p = k + 1 := ⟨F - p - 1, by omega⟩
  rw [hk]; rfl
theorem pP_get {Ps : List ByteArray} {p : Nat} {s : ByteArray} (h : Ps[p]? = some s) : pP Ps p = (bL s).map .P := by unfold pP; rw [h]; rfl
theorem cd_put {X0 Y0 : List Atm} {x y : Sd} {F p : Nat} {U V : List Atm} {z : Nat} {s t : ByteArray} (h : CdP X0 Y0 x y F p U V z) (hs : x.P[p]? = some s) (ht : y.P[p]? = some t) :
    CdQ X0 Y0 x y F p (U ++ (bL s).map .P ++ List.replicate t.size .K) (V ++ List.replicate s.size .K ++ (bL t).map .P) (z + s.size + t.size) ∧ U.length + s.size + t.size ≤ 300000 ∧ V.length + s.size + t.size ≤ 300000 ∧ z + s.size + t.size ≤ 300000 := by
  obtain ⟨c0, c1, c2, c3, c4⟩ := h
  have hz := out_le U
  have hout : outA (U ++ (bL s).map .P ++ List.replicate t.size .K) = outA U + s.size + t.size := by
    rw [outA_append, outA_append, (in_map_P _).2, (in_rep_K _).2, bL_len]
  have hlU : (U ++ (bL s).map Atm.P ++ List.replicate t.size Atm.K).length = U.length + s.size + t.size := by
    simp only [List.length_append, List.length_map, List.length_replicate, bL_len]
  have hlV : (V ++ List.replicate s.size Atm.K ++ (bL t).map Atm.P).length = V.length + s.size + t.size := by
    simp only [List.length_append, List.length_map, List.length_replicate, bL_len]
  by_cases hp : p < F
  · rw [fr_lt hp, fr_lt hp, pP_get hs, pP_get ht] at c1 c3 c4
    simp only [List.length_append, List.length_map, List.length_cons, bL_len] at c3 c4
    rw [carr_Ps, mapU_mapU, carr_yPs _ _ _ (by intro c z e; unfold pD at e; split at e <;> cases e), mapU_mapU, bL_len, bL_len] at c1
    refine ⟨⟨by rw [if_pos hp]; exact c1, by omega, by rw [hlU, if_pos hp]; omega, by rw [hlV, if_pos hp]; omega⟩, by omega, by omega, by omega⟩
  · have e : F - p = 0 := by omega
    rw [e, fr_end, fr_end, pP_get hs, pP_get ht] at c1 c3 c4
    simp only [List.length_map, bL_len] at c3 c4
    have c5 : carrA X0 Y0 = mapU (U ++ (bL s).map .P ++ List.replicate t.size .K) (V ++ List.replicate s.size .K ++ (bL t).map .P) (some ([], [])) := by
      have h1 := carr_Ps (bL s) [] ((bL t).map .P)
      have h2 := carr_yPs (bL t) [] [] (by intro c z e; cases e)
      rw [List.append_nil] at h1 h2
      rw [c1, h1, mapU_mapU, h2, mapU_mapU, bL_len, bL_len]
      simp [carrA]
    refine ⟨⟨by rw [if_neg hp]; exact c5, by omega, by rw [hlU, if_neg hp]; omega, by rw [hlV, if_neg hp]; omega⟩, by omega, by omega, by omega⟩
section
variable {X0 Y0 : List Atm} {x y : Sd} {F p : Nat} {U V : List Atm} {z : Nat}
theorem cd_end (h : CdQ X0 Y0 x y F p U V z) (hp : ¬ p < F) : carrA X0 Y0 = some (U, V) := by
  have := h.cp
  rw [if_neg hp] at this
  rw [this]; simp [mapU]
theorem pD_yes {Ds : List Bool} {Bs : List UInt8} {c : UInt8} (h : Ds[p]? = some true) (hb : Bs[p]? = some c) : pD Ds Bs p = .D c := by unfold pD; rw [h, hb]; rfl
theorem pD_no {Ds : List Bool} {Bs : List UInt8} (h : Ds[p]? = some false) : pD Ds Bs p = .K := by unfold pD; rw [h]; rfl
theorem fr_next (x : Sd) (F p : Nat) : x.fr (F - p - 1) (p + 1) = x.fr (F - (p + 1)) (p + 1) := by rw [show F - p - 1 = F - (p + 1) by omega]
theorem cd_DD {c d : UInt8} (h : CdQ X0 Y0 x y F p U V z) (hp : p < F) (h1 : x.D[p]? = some true) (h2 : y.D[p]? = some true) (g1 : x.B[p]? = some c) (g2 : y.B[p]? = some d) : if c = d then CdP X0 Y0 x y F (p + 1) U V z else carrA X0 Y0 = none := by
  obtain ⟨c1, c2, c3, c4⟩ := h
  rw [if_pos hp, pD_yes h1 g1, pD_yes h2 g2, carrA] at c1
  rw [if_pos hp] at c3 c4
  split
  · rename_i e
    rw [if_pos e, fr_next, fr_next] at c1
    rw [fr_next, fr_next] at c3 c4
    exact ⟨hp, c1, c2, by omega, by omega⟩
  · rename_i e
    rw [if_neg e] at c1
    exact c1
theorem cd_DK {c : UInt8} (h : CdQ X0 Y0 x y F p U V z) (hp : p < F) (h1 : x.D[p]? = some true) (h2 : y.D[p]? = some false) (g1 : x.B[p]? = some c) : CdP X0 Y0 x y F (p + 1) (U ++ [.D c]) V z := by
  obtain ⟨c1, c2, c3, c4⟩ := h
  rw [if_pos hp, pD_yes h1 g1, pD_no h2, carrA, fr_next, fr_next] at c1
  rw [if_pos hp, fr_next, fr_next] at c3 c4
  refine ⟨hp, ?_, by rw [outA_append]; simpa [outA] using c2, by simp only [List.length_append, List.length_cons, List.length_nil]; omega, by omega⟩
  rw [c1]
  show mapU U V (mapU [.D c] [] _) = _
  rw [mapU_mapU, List.append_nil]
theorem cd_KD {c : UInt8} (h : CdQ X0 Y0 x y F p U V z) (hp : p < F) (h1 : x.D[p]? = some false) (h2 : y.D[p]? = some true) (g1 : y.B[p]? = some c) : CdP X0 Y0 x y F (p + 1) U (V ++ [.D c]) z := by
  obtain ⟨c1, c2, c3, c4⟩ := h
  rw [if_pos hp, pD_yes h2 g1, pD_no h1, carrA, fr_next, fr_next] at c1
  rw [if_pos hp, fr_next, fr_next] at c3 c4
  refine ⟨hp, ?_, c2, by omega, by simp only [List.length_append, List.length_cons, List.length_nil]; omega⟩
  rw [c1]
  show mapU U V (mapU [] [.D c] _) = _
  rw [mapU_mapU, List.append_nil]
theorem cd_KK (h : CdQ X0 Y0 x y F p U V z) (hp : p < F) (h1 : x.D[p]? = some false) (h2 : y.D[p]? = some false) : CdP X0 Y0 x y F (p + 1) (U ++ List.replicate 1 .K) (V ++ List.replicate 1 .K) (z + 1) := by
  obtain ⟨c1, c2, c3, c4⟩ := h
  rw [if_pos hp, pD_no h1, pD_no h2, carrA, fr_next, fr_next] at c1
  rw [if_pos hp, fr_next, fr_next] at c3 c4
  refine ⟨hp, ?_, by rw [outA_append]; simpa [outA] using c2, by simp only [List.length_append, List.length_replicate]; omega, by simp only [List.length_append, List.length_replicate]; omega⟩
  rw [c1]
  show mapU U V (mapU [.K] [.K] _) = _
  rw [mapU_mapU]; rfl
end
theorem cd_start {x y : Sd} {F : Nat} {X0 Y0 : List Atm} (hx : SdOk x F X0) (hy : SdOk y F Y0) (hl : X0.length + Y0.length ≤ 300000) : CdP X0 Y0 x y F 0 [] [] 0 := by
  refine ⟨Nat.zero_le _, ?_, rfl, ?_, ?_⟩
  · rw [Nat.sub_zero, hx.fr, hy.fr, mapU_nil]
  · rw [Nat.sub_zero, hx.fr, hy.fr]; show 0 + _ + _ ≤ _; omega
  · rw [Nat.sub_zero, hx.fr, hy.fr]; show 0 + _ + _ ≤ _; omega
/-- What Say has told, as it lies in memory. -/
structure SdM (W : World) (bx : Nat) (x : Sd) (F : Nat) : Prop where
  lt : bx < W.heap.size
  mem : ∃ gP gD gB cP cD cB, Blk W bx #[.slice gP (F + 1) cP, .slice gD F cD, .slice gB F cB] 64 ∧ RowAt W encP 1 gP x.P ∧ RowAt W encO 1 gD x.D ∧ RowAt W (fun c => [u8V c]) 1 gB x.B ∧ F + 1 ≤ cP ∧ F ≤ cD ∧ F ≤ cB
/-- What a read of it finds. -/
def SdC (X : World) (bx : Nat) (F p : Nat) (s : ByteArray) : Prop := ∃ g o c, X.cell? ⟨bx, 0, none⟩ = some (.slice (some ⟨g, o, none⟩) (F + 1) c) ∧ X.cell? ⟨g, o + p, none⟩ = some (.string s)
theorem SdM.getP {W X : World} {bx : Nat} {x : Sd} {F p : Nat} {s : ByteArray} (h : SdM W bx x F) (hX : Below W.heap.size W X) (hs : x.P[p]? = some s) : SdC X bx F p s := by
  obtain ⟨hl, gP, gD, gB, cP, cD, cB, h1, h2, h3, h4, _⟩ := h
  obtain ⟨g, o, rfl, hc⟩ := h2 p s hs
  have h0 := hc 0 (by decide)
  rw [Nat.mul_one, Nat.add_zero] at h0
  refine ⟨g, o, cP, at_below (show W.cell? ⟨bx, 0, none⟩ = some _ from h1.cell 0) hX, at_below h0 hX⟩
def SdD (X : World) (bx : Nat) (F p : Nat) (v : Bool) : Prop := ∃ g o c, X.cell? ⟨bx, 1, none⟩ = some (.slice (some ⟨g, o, none⟩) F c) ∧ X.cell? ⟨g, o + p, none⟩ = some (.bool v)
theorem SdM.getD {W X : World} {bx : Nat} {x : Sd} {F p : Nat} {v : Bool} (h : SdM W bx x F) (hX : Below W.heap.size W X) (hs : x.D[p]? = some v) : SdD X bx F p v := by
  obtain ⟨hl, gP, gD, gB, cP, cD, cB, h1, h2, h3, h4, _⟩ := h
  obtain ⟨g, o, rfl, hc⟩ := h3 p v hs
  have h0 := hc 0 (by decide)
  rw [Nat.mul_one, Nat.add_zero] at h0
  refine ⟨g, o, cD, at_below (show W.cell? ⟨bx, 1, none⟩ = some _ from h1.cell 1) hX, at_below h0 hX⟩
def SdB (X : World) (bx : Nat) (F p : Nat) (v : UInt8) : Prop := ∃ g o c, X.cell? ⟨bx, 2, none⟩ = some (.slice (some ⟨g, o, none⟩) F c) ∧ X.cell? ⟨g, o + p, none⟩ = some (.int .u8 v.toNat)
theorem SdM.getB {W X : World} {bx : Nat} {x : Sd} {F p : Nat} {v : UInt8} (h : SdM W bx x F) (hX : Below W.heap.size W X) (hs : x.B[p]? = some v) : SdB X bx F p v := by
  obtain ⟨hl, gP, gD, gB, cP, cD, cB, h1, h2, h3, h4, _⟩ := h
  obtain ⟨g, o, rfl, hc⟩ := h4 p v hs
  have h0 := hc 0 (by decide)
  rw [Nat.mul_one, Nat.add_zero] at h0
  refine ⟨g, o, cB, at_below (show W.cell? ⟨bx, 2, none⟩ = some _ from h1.cell 2) hX, at_below h0 hX⟩
theorem SdM.allP {W : World} {bx : Nat} {x : Sd} {F p : Nat} {s : ByteArray} (h : SdM W bx x F) (hs : x.P[p]? = some s) : ∃ g o c, ∀ X, Below W.heap.size W X → X.cell? ⟨bx, 0, none⟩ = some (.slice (some ⟨g, o, none⟩) (F + 1) c) ∧ X.cell? ⟨g, o + p, none⟩ = some (.string s) := by
  obtain ⟨hl, gP, gD, gB, cP, cD, cB, h1, h2, h3, h4, _⟩ := h
  obtain ⟨g, o, rfl, hc⟩ := h2 p s hs
  have h0 := hc 0 (by decide)
  rw [Nat.mul_one, Nat.add_zero] at h0
  exact ⟨g, o, cP, fun X hX => ⟨at_below (show W.cell? ⟨bx, 0, none⟩ = some _ from h1.cell 0) hX, at_below h0 hX⟩⟩
theorem SdM.allD {W : World} {bx : Nat} {x : Sd} {F p : Nat} {v : Bool} (h : SdM W bx x F) (hs : x.D[p]? = some v) : ∃ g o c, ∀ X, Below W.heap.size W X → X.cell? ⟨bx, 1, none⟩ = some (.slice (some ⟨g, o, none⟩) F c) ∧ X.cell? ⟨g, o + p, none⟩ = some (.bool v) := by
  obtain ⟨hl, gP, gD, gB, cP, cD, cB, h1, h2, h3, h4, _⟩ := h
  obtain ⟨g, o, rfl, hc⟩ := h3 p v hs
  have h0 := hc 0 (by decide)
  rw [Nat.mul_one, Nat.add_zero] at h0
  exact ⟨g, o, cD, fun X hX => ⟨at_below (show W.cell? ⟨bx, 1, none⟩ = some _ from h1.cell 1) hX, at_below h0 hX⟩⟩
theorem SdM.allB {W : World} {bx : Nat} {x : Sd} {F p : Nat} {v : UInt8} (h : SdM W bx x F) (hs : x.B[p]? = some v) : ∃ g o c, ∀ X, Below W.heap.size W X → X.cell? ⟨bx, 2, none⟩ = some (.slice (some ⟨g, o, none⟩) F c) ∧ X.cell? ⟨g, o + p, none⟩ = some (.int .u8 v.toNat) := by
  obtain ⟨hl, gP, gD, gB, cP, cD, cB, h1, h2, h3, h4, _⟩ := h
  obtain ⟨g, o, rfl, hc⟩ := h4 p v hs
  have h0 := hc 0 (by decide)
  rw [Nat.mul_one, Nat.add_zero] at h0
  exact ⟨g, o, cB, fun X hX => ⟨at_below (show W.cell? ⟨bx, 2, none⟩ = some _ from h1.cell 2) hX, at_below h0 hX⟩⟩
/-- What Say hands back, laid down. -/
theorem SdM.of {W X : World} {b bx F : Nat} {x : Sd} {vP vD vB : Value} (hx1 : x.P.length = F + 1) (hx2 : x.D.length = F) (hx3 : x.B.length = F) (hP : W.ownsRow b 9 1 vP (F + 1) (x.P.flatMap encP)) (hD : W.ownsRow b 4 1 vD F (x.D.flatMap encO)) (hB : W.ownsRow b 5 1 vB F (x.B.map u8V)) (hX : Below W.heap.size W X) (hb : Blk X bx #[vP, vD, vB] 64) : SdM X bx x F := by
  obtain ⟨oP, cP, rfl, _⟩ := own_slice hP
  obtain ⟨oD, cD, rfl, _⟩ := own_slice hD
  obtain ⟨oB, cB, rfl, _⟩ := own_slice hB
  have e : x.B.map u8V = x.B.flatMap (fun c => [u8V c]) := by induction x.B with
    | nil => rfl
    | cons c l ih => rw [List.map_cons, List.flatMap_cons, ih]; rfl
  rw [e] at hB
  refine ⟨hb.lt, oP, oD, oB, cP, cD, cB, hb, (RowAt.of_own encP_len hP hx1).below encP_len (by decide) hX, (RowAt.of_own encO_len hD hx2).below encO_len (by decide) hX, RowAt.below (k := 1) (fun _ => rfl) (by decide) (RowAt.of_own (enc := fun c => [u8V c]) (k := 1) (fun _ => rfl) hB hx3) hX, (row_caps hP).1, (row_caps hD).1, (row_caps hB).1⟩
end Go.Proofs.Ytpijooajbgeejaa
