/- Texts in small and in great letters, once more the same. Plain facts. -/
import Derived.Test.YtkikopjbaonbpaaUo
import Derived.Test.YtkikopjbaonbpaaUc
namespace Go.Proofs.Ytkikopjbaonbpaa
set_option linter.unusedVariables false
set_option linter.unusedSimpArgs false
open Go
set_option maxRecDepth 100000

def catK (k : Int → ByteArray) : List Int → ByteArray
  | [] => ⟨#[]⟩
  | z :: l => k z ++ catK k l
theorem catK_enc (l : List Int) : catK Utf8.encode l = catE l := by
  induction l with
  | nil => rfl
  | cons z l ih => show Utf8.encode z ++ catK Utf8.encode l = Utf8.encode z ++ catE l; rw [ih]

theorem out_run (g : Int → Bool → Bool → ByteArray) (k : Int → ByteArray) : ∀ (zs : List Int), (∀ z ∈ zs, leB z = true ∧ 0 ≤ z ∧ ∀ a b, g z a b = k z) → ∀ (led : Bool) (l : List Un), ∃ led2, outU g led (zs.map unZ ++ l) = catK k zs ++ outU g led2 l := by
  intro zs
  induction zs with
  | nil => intro _ led l; exact ⟨led, (nil_ba _).symm⟩
  | cons z zs ih =>
    intro h led l
    obtain ⟨h1, h2, h3⟩ := h z (by simp)
    have hz : ((unZ z).1 : Int) = z := by show ((z.toNat : Nat) : Int) = z; omega
    have hl : leB (unZ z).1 = true := by rw [hz]; exact h1
    obtain ⟨led2, h4⟩ := ih (fun z hz => h z (List.mem_cons_of_mem _ hz)) true l
    refine ⟨led2, ?_⟩
    rw [List.map_cons, List.cons_append, outU_t hl, h4, hz, h3]
    show _ = (k z ++ catK k zs) ++ _
    rw [ByteArray.append_assoc]

theorem out_twice (g h : Int → Bool → Bool → ByteArray) (k : Int → ByteArray) (zg : Int → Bool → Bool → List Int) (P : Int → Prop)
    (H1 : ∀ (r : Int) (a b : Bool), P r → leB r = true → ∀ z ∈ zg r a b, leB z = true ∧ 0 ≤ z ∧ ∀ a b, g z a b = k z) (H2 : ∀ (r : Int) (a b : Bool), P r → leB r = true → catK k (zg r a b) = h r a b) :
    ∀ (us : List Un), (∀ u ∈ us, leB u.1 = true → P u.1) → ∀ (led led' : Bool), outU g led' (outN zg led us) = outU h led us := by
  intro us
  induction us with
  | nil => intro _ led led'; rfl
  | cons u us ih =>
    intro hp led led'
    have ih2 := ih (fun u hu => hp u (List.mem_cons_of_mem _ hu))
    cases hl : leB u.1 with
    | true =>
      have hP := hp u (by simp) hl
      obtain ⟨led2, e⟩ := out_run g k (zg u.1 led (((u.1 : Int) == 931) && folV us)) (H1 u.1 led _ hP hl) led' (outN zg true us)
      rw [outN_t hl, outU_t hl, e, H2 u.1 led _ hP hl, ih2]
    | false =>
      rw [outN_f hl, outU_f hl, outU_f hl, ih2]

/-- The small ones, the great ones. -/
def zl (r : Int) (a b : Bool) : List Int := [lowG r a b]
def zu (r : Int) (a b : Bool) : List Int := if r = 223 then [83, 83] else [upZ r]
def zh (r : Int) (a b : Bool) : List Int := if a = true then [lowG r a b] else [upZ r]
def upG (r : Int) (a b : Bool) : ByteArray := if r = 223 then ⟨#[83, 83]⟩ else Utf8.encode (upZ r)
theorem upG_le (r : Int) (a b : Bool) : (upG r a b).size ≤ 4 := by
  unfold upG
  split
  · decide
  · exact enc_le _
theorem cat_one (z : Int) : catE [z] = Utf8.encode z := by show Utf8.encode z ++ (⟨#[]⟩ : ByteArray) = _; exact ba_nil _
theorem cat_ss : catE [83, 83] = ⟨#[83, 83]⟩ := by kernel_rfl
theorem lw_cat : lwG = fun r a b => catE (zl r a b) := by
  funext r a b
  exact (cat_one _).symm
theorem up_cat : upG = fun r a b => catE (zu r a b) := by
  funext r a b
  unfold upG zu
  split
  · exact cat_ss.symm
  · exact (cat_one _).symm
theorem hd_cat : hdG = fun r a b => catE (zh r a b) := by
  funext r a b
  unfold hdG zh
  split <;> exact (cat_one _).symm

theorem low_letter {r : Int} (h : leB r = true) (a b : Bool) : leB (lowG r a b) = true ∧ ∀ a' b', lowG (lowG r a b) a' b' = lowG r a b := by
  have ht := turned h
  unfold lowG
  split
  · refine ⟨turned_962.2.1, fun a' b' => ?_⟩
    rw [if_neg (fun hh => absurd hh.1 (by decide))]; exact turned_962.1
  · refine ⟨ht.lowL, fun a' b' => ?_⟩
    rw [if_neg (fun hh => ht.low9 hh.1)]; exact ht.low2
theorem le_nn {r : Int} (h : leB r = true) : 0 ≤ r := by have := leB_in h; omega
theorem le_noR {r : Int} (h : leB r = true) : noR r = false := by
  have := leB_in h
  rw [noR_not]; omega
theorem zl_le (r : Int) (a b : Bool) (h : leB r = true) : ∀ z ∈ zl r a b, leB z = true := by
  intro z hz
  rw [show z = lowG r a b from List.mem_singleton.1 hz]
  exact (low_letter h a b).1
theorem zu_le (r : Int) (a b : Bool) (h : leB r = true) : ∀ z ∈ zu r a b, leB z = true := by
  intro z hz
  unfold zu at hz
  split at hz
  · have : z = 83 := by simpa using hz
    rw [this]; exact turned_962.2.2.2.2.1
  · rw [show z = upZ r from List.mem_singleton.1 hz]; exact (turned h).upL
theorem zh_le (r : Int) (a b : Bool) (h : leB r = true) : ∀ z ∈ zh r a b, leB z = true := by
  intro z hz
  unfold zh at hz
  split at hz
  · rw [show z = lowG r a b from List.mem_singleton.1 hz]; exact (low_letter h a b).1
  · rw [show z = upZ r from List.mem_singleton.1 hz]; exact (turned h).upL
theorem zl_ok (r : Int) (a b : Bool) (h : leB r = true) : zl r a b ≠ [] ∧ ∀ z ∈ zl r a b, noR z = false := ⟨by simp [zl], fun z hz => le_noR (zl_le r a b h z hz)⟩
theorem zu_ok (r : Int) (a b : Bool) (h : leB r = true) : zu r a b ≠ [] ∧ ∀ z ∈ zu r a b, noR z = false := ⟨by unfold zu; split <;> simp, fun z hz => le_noR (zu_le r a b h z hz)⟩
theorem zh_ok (r : Int) (a b : Bool) (h : leB r = true) : zh r a b ≠ [] ∧ ∀ z ∈ zh r a b, noR z = false := ⟨by unfold zh; split <;> simp, fun z hz => le_noR (zh_le r a b h z hz)⟩

/-- A text, its letters turned. -/
def txL (s : ByteArray) : ByteArray := outU lwG false (units s)
def txU (s : ByteArray) : ByteArray := outU upG false (units s)
def txH (s : ByteArray) : ByteArray := outU hdG false (units s)
theorem unitsL (s : ByteArray) : units (txL s) = outN zl false (units s) := by unfold txL; rw [lw_cat]; exact units_turned s zl zl_ok
theorem unitsU (s : ByteArray) : units (txU s) = outN zu false (units s) := by unfold txU; rw [up_cat]; exact units_turned s zu zu_ok
theorem unitsH (s : ByteArray) : units (txH s) = outN zh false (units s) := by unfold txH; rw [hd_cat]; exact units_turned s zh zh_ok

theorem low_low (s : ByteArray) : txL (txL s) = txL s := by
  show outU lwG false (units (txL s)) = outU lwG false (units s)
  rw [unitsL]
  refine out_twice lwG lwG Utf8.encode zl (fun _ => True) ?_ ?_ (units s) (fun _ _ _ => trivial) false false
  · intro r a b _ h z hz
    have e : z = lowG r a b := List.mem_singleton.1 hz
    refine ⟨zl_le r a b h z hz, le_nn (zl_le r a b h z hz), fun a' b' => ?_⟩
    unfold lwG
    rw [e, (low_letter h a b).2]
  · intro r a b _ h
    rw [catK_enc, show zl r a b = [lowG r a b] from rfl, cat_one]; rfl
theorem zu_stay {r : Int} {a b : Bool} (h : leB r = true) : ∀ z ∈ zu r a b, z ≠ 223 ∧ upZ z = z := by
  intro z hz
  have ht := turned h
  unfold zu at hz
  split at hz
  · have : z = 83 := by simpa using hz
    rw [this]; exact ⟨by decide, turned_962.2.2.2.2.2.1⟩
  · next hn =>
    rw [show z = upZ r from List.mem_singleton.1 hz]
    exact ⟨ht.upS.resolve_left hn, ht.up2⟩
theorem up_up (s : ByteArray) : txU (txU s) = txU s := by
  show outU upG false (units (txU s)) = outU upG false (units s)
  rw [unitsU]
  refine out_twice upG upG Utf8.encode zu (fun _ => True) ?_ ?_ (units s) (fun _ _ _ => trivial) false false
  · intro r a b _ h z hz
    obtain ⟨h1, h2⟩ := zu_stay h z hz
    refine ⟨zu_le r a b h z hz, le_nn (zu_le r a b h z hz), fun a' b' => ?_⟩
    unfold upG
    rw [if_neg h1, h2]
  · intro r a b _ h
    rw [catK_enc, up_cat]
theorem up_low (s : ByteArray) (hd : ∀ u ∈ units s, u.1 ≠ 304) : txU (txL s) = txU s := by
  show outU upG false (units (txL s)) = outU upG false (units s)
  rw [unitsL]
  refine out_twice upG upG (fun z => upG z false false) zl (fun r => r ≠ 304) ?_ ?_ (units s) (fun u hu _ => by have := hd u hu; omega) false false
  · intro r a b _ h z hz
    exact ⟨zl_le r a b h z hz, le_nn (zl_le r a b h z hz), fun a' b' => rfl⟩
  · intro r a b hr h
    show upG (lowG r a b) false false ++ (⟨#[]⟩ : ByteArray) = upG r a b
    rw [ba_nil]
    have ht := turned h
    unfold lowG
    split
    · next h9 =>
      rw [h9.1]
      unfold upG
      rw [if_neg (by decide), if_neg (by decide), turned_962.2.2.1, turned_962.2.2.2.1]
    · unfold upG
      by_cases h2 : r = 223
      · rw [h2, turned_962.2.2.2.2.2.2]
      · rw [if_neg (ht.lowS.resolve_left h2), if_neg h2, ht.upLow.resolve_left hr]
theorem tx_len (s : ByteArray) (g : Int → Bool → Bool → ByteArray) (hg : ∀ r a b, (g r a b).size ≤ 4) : (outU g false (units s)).size ≤ 4 * s.size := by
  rw [← tuS_units]
  have h1 := tuS_len s g hg (posns s)
  have h2 := posns_len s
  show (tuS s g (posns s)).2.toArray.size ≤ _
  rw [List.size_toArray]; omega
end Go.Proofs.Ytkikopjbaonbpaa
