/- What comes of a text when letters are turned: its pieces; turned once more; what is no letter. Plain facts. -/
import Derived.Test.YtkikopjbaonbpaaUn
import Derived.Test.YtkikopjbaonbpaaTx
namespace Go.Proofs.Ytkikopjbaonbpaa
set_option linter.unusedVariables false
set_option linter.unusedSimpArgs false
open Go
set_option maxRecDepth 100000

def ledV (led : Bool) (u : Un) : Bool := if leB u.1 = true then true else (led && (kindZ u.1 == 2))
def folV : List Un → Bool
  | [] => false
  | u :: l => if kindZ u.1 == 2 then folV l else leB u.1
theorem fol_V (s : ByteArray) : ∀ l, folS s l = folV (l.map (unA s)) := by
  intro l
  induction l with
  | nil => rfl
  | cons i l ih => simp only [folS, List.map_cons, folV, ih]; rfl
def outU (g : Int → Bool → Bool → ByteArray) : Bool → List Un → ByteArray
  | _, [] => ⟨#[]⟩
  | led, u :: l => (if leB u.1 = true then g u.1 led (((u.1 : Int) == 931) && folV l) else ⟨u.2.2.toArray⟩) ++ outU g (ledV led u) l
def outN (zg : Int → Bool → Bool → List Int) : Bool → List Un → List Un
  | _, [] => []
  | led, u :: l => (if leB u.1 = true then (zg u.1 led (((u.1 : Int) == 931) && folV l)).map unZ else [u]) ++ outN zg (ledV led u) l
theorem outU_t {g : Int → Bool → Bool → ByteArray} {u : Un} (h : leB u.1 = true) (led : Bool) (l : List Un) : outU g led (u :: l) = g u.1 led (((u.1 : Int) == 931) && folV l) ++ outU g true l := by
  simp only [outU, ledV]; rw [if_pos h, if_pos h]
theorem outU_f {g : Int → Bool → Bool → ByteArray} {u : Un} (h : leB u.1 = false) (led : Bool) (l : List Un) : outU g led (u :: l) = ⟨u.2.2.toArray⟩ ++ outU g (led && (kindZ u.1 == 2)) l := by
  simp only [outU, ledV]; rw [if_neg (by rw [h]; simp), if_neg (by rw [h]; simp)]
theorem outN_t {zg : Int → Bool → Bool → List Int} {u : Un} (h : leB u.1 = true) (led : Bool) (l : List Un) : outN zg led (u :: l) = (zg u.1 led (((u.1 : Int) == 931) && folV l)).map unZ ++ outN zg true l := by
  simp only [outN, ledV]; rw [if_pos h, if_pos h]
theorem outN_f {zg : Int → Bool → Bool → List Int} {u : Un} (h : leB u.1 = false) (led : Bool) (l : List Un) : outN zg led (u :: l) = u :: outN zg (led && (kindZ u.1 == 2)) l := by
  simp only [outN, ledV]; rw [if_neg (by rw [h]; simp), if_neg (by rw [h]; simp)]; rfl

theorem ba_app (a b : List UInt8) : (⟨(a ++ b).toArray⟩ : ByteArray) = ⟨a.toArray⟩ ++ ⟨b.toArray⟩ := by
  apply ByteArray.ext
  rw [ByteArray.data_append]
  simp
theorem ba_nil (b : ByteArray) : b ++ (⟨#[]⟩ : ByteArray) = b := by
  apply ByteArray.ext
  rw [ByteArray.data_append]
  simp
theorem nil_ba (b : ByteArray) : (⟨#[]⟩ : ByteArray) ++ b = b := by
  apply ByteArray.ext
  rw [ByteArray.data_append]
  simp
theorem ba_list (b : ByteArray) : (⟨b.data.toList.toArray⟩ : ByteArray) = b := by cases b; simp

theorem tuS_out (s : ByteArray) (g : Int → Bool → Bool → ByteArray) : ∀ p, ∀ st : Bool × List UInt8, (⟨((posG s p).foldl (tuB s g) st).2.toArray⟩ : ByteArray) = ⟨st.2.toArray⟩ ++ outU g st.1 ((posG s p).map (unA s)) := by
  apply posG_ind s
  · intro p hp st
    rw [posG_end s p hp]
    exact (ba_nil _).symm
  · intro p hp ih st
    rw [posG_cons s p hp, List.foldl_cons, List.map_cons, ih]
    show (⟨(st.2 ++ (tuF s g st.1 p).data.toList).toArray⟩ : ByteArray) ++ outU g (ledU s st.1 p) _ = _
    rw [ba_app, ba_list, ByteArray.append_assoc]
    congr 1
    cases hl : leB (rn s p) with
    | true =>
      rw [outU_t (u := unA s p) hl, tuF_t hl, ledU_t hl, fol_V]; rfl
    | false =>
      rw [outU_f (u := unA s p) hl, tuF_f hl, ledU_f hl]
      show _ = (⟨(s.extract p (p + wd s p)).data.toList.toArray⟩ : ByteArray) ++ _
      rw [ba_list]; rfl
theorem tuS_units (s : ByteArray) (g : Int → Bool → Bool → ByteArray) : (⟨(tuS s g (posns s)).2.toArray⟩ : ByteArray) = outU g false (units s) := by
  have := tuS_out s g 0 (false, [])
  rw [← posns_G] at this
  rw [show (⟨([] : List UInt8).toArray⟩ : ByteArray) = ⟨#[]⟩ from rfl, nil_ba] at this
  exact this

/-- Forms, one behind the other. -/
def catE : List Int → ByteArray
  | [] => ⟨#[]⟩
  | z :: l => Utf8.encode z ++ catE l
theorem units_cat (zs : List Int) (h : ∀ z ∈ zs, noR z = false) (y : ByteArray) : units (catE zs ++ y) = zs.map unZ ++ units y := by
  induction zs with
  | nil => rw [show catE [] = (⟨#[]⟩ : ByteArray) from rfl, nil_ba]; rfl
  | cons z l ih =>
    show units ((Utf8.encode z ++ catE l) ++ y) = _
    rw [ByteArray.append_assoc, units_form z (h z (by simp)), ih (fun z hz => h z (List.mem_cons_of_mem _ hz))]
    rfl

theorem nc_cat (zs : List Int) (h : zs ≠ []) (hz : ∀ z ∈ zs, noR z = false) (y : ByteArray) : nc (catE zs ++ y) := by
  cases zs with
  | nil => exact absurd rfl h
  | cons z l =>
    show nc ((Utf8.encode z ++ catE l) ++ y)
    rw [ByteArray.append_assoc]
    exact nc_form z (hz z (by simp)) _

theorem tail_cons (s : ByteArray) (p : Nat) (hp : p < s.size) : s.extract p s.size = s.extract p (p + wd s p) ++ s.extract (p + wd s p) s.size := by
  have h1 := wd_fits s p hp
  apply ByteArray.ext
  simp only [ByteArray.data_append, ByteArray.data_extract]
  rw [Array.extract_append_extract]
  congr 1
  · omega
  · show s.data.size = max _ s.data.size
    have : s.data.size = s.size := rfl
    omega

theorem nc_form0 (z : Int) (h : noR z = false) (x : ByteArray) (hx : Utf8.encode z = x) (y : ByteArray) : nc (x ++ y) := by
  subst hx
  exact nc_form z h y
theorem piece_units (s : ByteArray) (p : Nat) (hb : bk s p = false) (x : ByteArray) (hx : s.extract p (p + wd s p) = x) (n1 : noR (rn s p) = false) (n3 : Utf8.encode (rn s p) = x) (n2 : widZ (rn s p) = x.size) (h1 : 1 ≤ x.size) (h4 : x.size ≤ 4) (y : ByteArray) :
    units (x ++ y) = unA s p :: units y := by
  rw [units_form0 (rn s p) n1 x n3 h1 h4 n2 y]
  clear n3
  unfold unA
  rw [hb, hx]
  rfl

theorem units_out (s : ByteArray) (zg : Int → Bool → Bool → List Int) (hz : ∀ (r : Int) (a b : Bool), leB r = true → zg r a b ≠ [] ∧ ∀ z ∈ zg r a b, noR z = false) : ∀ p, ∀ led,
    units (outU (fun r a b => catE (zg r a b)) led ((posG s p).map (unA s))) = outN zg led ((posG s p).map (unA s)) ∧
      ∃ x y y' : ByteArray, s.extract p s.size = x ++ y ∧ outU (fun r a b => catE (zg r a b)) led ((posG s p).map (unA s)) = x ++ y' ∧ nc y ∧ nc y' := by
  apply posG_ind s
  · intro p hp led
    rw [posG_end s p hp]
    refine ⟨rfl, ⟨#[]⟩, s.extract p s.size, ⟨#[]⟩, (nil_ba _).symm, rfl, .inl ?_, .inl rfl⟩
    rw [ByteArray.size_extract]; omega
  · intro p hp ih led
    rw [posG_cons s p hp, List.map_cons]
    have htl := tail_cons s p hp
    cases hb : bk s p with
    | true =>
      have hl := (bk_not_le hb).1
      obtain ⟨e1, e2⟩ := bk_rn s p hb
      rw [outU_f (u := unA s p) hl, outN_f (u := unA s p) hl]
      obtain ⟨i1, x, y, y', i2, i3, i4, i5⟩ := ih (led && (kindZ (unA s p).1 == 2))
      obtain ⟨T, hT⟩ : ∃ T, outU (fun r a b => catE (zg r a b)) (led && (kindZ (unA s p).1 == 2)) ((posG s (p + wd s p)).map (unA s)) = T := ⟨_, rfl⟩
      rw [hT] at i1 i3 ⊢
      have hraw : (⟨(unA s p).2.2.toArray⟩ : ByteArray) = s.extract p (p + wd s p) := ba_list _
      rw [hraw]
      obtain ⟨bx, hbx⟩ : ∃ bx, s.extract p (p + wd s p) = bx := ⟨_, rfl⟩
      have hb1 : bx.size = 1 := by rw [← hbx, ByteArray.size_extract, e2]; omega
      rw [hbx] at htl ⊢
      have hl0 : lenN (s.extract p s.size) 0 = 0 := by rw [tl_len, Nat.add_zero]; exact (bk_iff s p).1 hb
      rw [htl, i2, ← ByteArray.append_assoc, len_nc _ _ (by rw [ByteArray.size_append]; omega) i4] at hl0
      have hl1 : lenN (bx ++ T) 0 = 0 := by rw [i3, ← ByteArray.append_assoc, len_nc _ _ (by rw [ByteArray.size_append]; omega) i5]; exact hl0
      refine ⟨?_, bx ++ x, y, y', ?_, ?_, i4, i5⟩
      · rw [units_byte bx T hb1 hl1, i1]
        congr 1
        unfold unA
        rw [e1, hb, hbx]
      · rw [htl, i2, ByteArray.append_assoc]
      · rw [i3, ByteArray.append_assoc]
    | false =>
      have hl0 := (bk_not s p).1 hb
      have hwd : wd s p = lenN s p := by unfold wd; rw [if_neg hl0]
      obtain ⟨n1, n2, n3⟩ := enc_of_form s p hp hl0
      rw [← hwd] at n3
      have hxs : (s.extract p (p + wd s p)).size = wd s p := by
        have := wd_fits s p hp
        rw [ByteArray.size_extract]; omega
      have hu := piece_units s p hb (s.extract p (p + wd s p)) rfl n1 n3 (by rw [n2, hxs, hwd]) (by rw [hxs]; exact wd_pos s p) (by rw [hxs]; exact wd_le s p)
      have hn := nc_form0 _ n1 _ n3
      clear n1 n2 n3
      have hy : nc (s.extract p s.size) := by rw [htl]; exact hn _
      cases hl : leB (rn s p) with
      | false =>
        rw [outU_f (u := unA s p) hl, outN_f (u := unA s p) hl]
        obtain ⟨i1, _⟩ := ih (led && (kindZ (unA s p).1 == 2))
        have hraw : (⟨(unA s p).2.2.toArray⟩ : ByteArray) = s.extract p (p + wd s p) := ba_list _
        rw [hraw]
        exact ⟨by rw [hu, i1], ⟨#[]⟩, s.extract p s.size, _, (nil_ba _).symm, (nil_ba _).symm, hy, hn _⟩
      | true =>
        rw [outU_t (u := unA s p) hl, outN_t (u := unA s p) hl]
        obtain ⟨i1, _⟩ := ih true
        obtain ⟨z1, z2⟩ := hz (unA s p).1 led (((unA s p).1 : Int) == 931 && folV ((posG s (p + wd s p)).map (unA s))) hl
        obtain ⟨zs, hzs⟩ : ∃ zs, zg (unA s p).1 led (((unA s p).1 : Int) == 931 && folV ((posG s (p + wd s p)).map (unA s))) = zs := ⟨_, rfl⟩
        simp only [hzs] at z1 z2 ⊢
        have hu2 := units_cat zs z2
        have hn2 := nc_cat zs z1 z2
        obtain ⟨C, hC⟩ : ∃ C, catE zs = C := ⟨_, rfl⟩
        rw [hC] at hu2 hn2 ⊢
        clear hC
        exact ⟨by rw [hu2, i1], ⟨#[]⟩, s.extract p s.size, _, (nil_ba _).symm, (nil_ba _).symm, hy, hn2 _⟩
theorem units_turned (s : ByteArray) (zg : Int → Bool → Bool → List Int) (hz : ∀ (r : Int) (a b : Bool), leB r = true → zg r a b ≠ [] ∧ ∀ z ∈ zg r a b, noR z = false) :
    units (outU (fun r a b => catE (zg r a b)) false (units s)) = outN zg false (units s) := by
  have := (units_out s zg hz 0 false).1
  rw [← posns_G] at this
  exact this
end Go.Proofs.Ytkikopjbaonbpaa
