/- Stage 27: Quoted of the document. -/
import Derived.Test.YtjccoiephdopkaaDoorQo2
import Derived.Test.YtjccoiephdopkaaDoorZZPd
import Derived.Test.YtjccoiephdopkaaDoorRp1
namespace Go.Proofs.YtjccoiephdopkaaDoor
set_option linter.unusedVariables false
set_option linter.unusedSimpArgs false
open Go Go.RowKit Go.Shelf
set_option maxRecDepth 100000

/-- The digits to the base 16 ahead of the last one. -/
def preX (v : Nat) : List UInt8 := if v < 16 then [] else hexL (v / 16)
theorem hexL_pre (v : Nat) : hexL v = preX v ++ [hxD (v % 16)] := by
  unfold preX
  by_cases h : v < 16
  · rw [if_pos h, hexL_small h, Nat.mod_eq_of_lt h]; rfl
  · rw [if_neg h, hexL_big h]
theorem preX_big {v : Nat} (h : ¬ v < 16) : preX v = preX (v / 16) ++ [hxD (v / 16 % 16)] := by
  rw [← hexL_pre]; unfold preX; rw [if_neg h]
theorem own_ne {W : World} {b1 b2 z1 z2 n1 n2 g : Nat} {e1 e2 : TypeId} {v1 v2 : Value} {x1 x2 : List Value} (h1 : W.ownsRow b1 e1 z1 v1 n1 x1) (h2 : W.ownsRow b2 e2 z2 v2 n2 x2) (he : e1 ≠ e2) (hg : v1.ownBlock = some g) : v2.ownBlock ≠ some g := by
  intro hg2
  rcases h1.2 with ⟨rfl, _⟩ | ⟨g1, cap1, cur1, rfl, _, hb1, _⟩
  · simp [Value.ownBlock] at hg
  · rcases h2.2 with ⟨rfl, _⟩ | ⟨g2, cap2, cur2, rfl, _, hb2, _⟩
    · simp [Value.ownBlock] at hg2
    · simp [Value.ownBlock] at hg hg2
      subst hg hg2
      rw [hb1] at hb2
      cases hb2
      exact he rfl
theorem own_both {W W2 : World} {b1 b2 z1 z2 n1 n2 : Nat} {e1 e2 : TypeId} {v1 v2 : Value} {x1 x2 : List Value} (h1 : W.ownsRow b1 e1 z1 v1 n1 x1) (h2 : W.ownsRow b2 e2 z2 v2 n2 x2) (he : e1 ≠ e2) (hg : W.grownBy W2 v1.ownBlock) : W2.ownsRow b2 e2 z2 v2 n2 x2 := by
  refine h2.kept hg ?_
  cases hv : v2.ownBlock with
  | none => exact .inl rfl
  | some g => exact .inr (fun e => own_ne h1 h2 he e.symm hv)
/-- What the loop over the pieces has. -/
structure QdL (s : ByteArray) (w : World) (b2 : Nat) (vp : Value) (vo : Value) (L : List UInt8) (X : World) : Prop where
  o : X.ownsRow w.heap.size 5 1 vo L.length (bC L)
  p : X.ownsRow b2 109 4 vp (posns s).length (SZ.pcs s (posns s))
  b : Below w.heap.size w X
theorem QdL.below {s : ByteArray} {w X Y : World} {b2 : Nat} {vp vo : Value} {L : List UInt8} (h : QdL s w b2 vp vo L X) (k : Below X.heap.size X Y) : QdL s w b2 vp vo L Y := ⟨own_below h.o k, own_below h.p k, h.b.trans (k.mono h.b.size)⟩
theorem QdL.app {s : ByteArray} {w X Y : World} {b2 : Nat} {vp vo vo2 : Value} {L M : List UInt8} (h : QdL s w b2 vp vo L X) (ho : Y.ownsRow w.heap.size 5 1 vo2 (L.length + M.length) (bC L ++ bC M)) (hg : X.grownBy Y vo.ownBlock) : QdL s w b2 vp vo2 (L ++ M) Y := by
  refine ⟨by rw [List.length_append, bC_app]; exact ho, own_both h.o h.p (by decide) hg, ?_⟩
  exact h.b.grown hg h.b.size (fun j hj => (h.o.lt j hj).1)
theorem QdL.cells {s : ByteArray} {w X : World} {b2 g c k q : Nat} {vo : Value} {L : List UInt8} (h : QdL s w b2 (.slice (some ⟨g, 0, none⟩) (posns s).length c) vo L X) (hk : (posns s)[k]? = some q) :
    X.cell? ⟨g, k * 4, none⟩ = some (.int .i64 q) ∧ X.cell? ⟨g, k * 4 + 2, none⟩ = some (.int .i32 (rn s q)) ∧ X.cell? ⟨g, k * 4 + 3, none⟩ = some (.bool (bk s q)) := by
  have hl : k < (posns s).length := (List.getElem?_eq_some_iff.1 hk).1
  have hc := fun j (hj : j < (posns s).length * 4) => h.p.cellAt j hj
  have hf := fun j (hj : j < 4) => fl_get (enc := fun (i : Nat) => [Value.int .i64 i, .int .i64 (wd s i : Nat), .int .i32 (rn s i : Nat), .bool (bk s i)]) (k := 4) (fun _ => rfl) hk hj
  have h0 := hf 0 (by decide)
  have h2 := hf 2 (by decide)
  have h3 := hf 3 (by decide)
  refine ⟨?_, ?_, ?_⟩
  · rw [hc _ (by omega)]; exact h0
  · rw [hc _ (by omega)]; exact h2
  · rw [hc _ (by omega)]; exact h3
structure QtP (s : ByteArray) (w : World) (e : Ending) (w' : World) : Prop where
  h : e = .returned (.string (quoB s)) ∧ Below w.heap.size w w'
set_option maxHeartbeats 4000000 in
theorem quotedRef_any (s : ByteArray) (hs : s.size ≤ 1048600) (w : World) : Calls Tryd.prog 36 #[.string s] w (QtP s w) := by
  obtain ⟨i0, hi, hz0, hz1, hz2⟩ := info_parts infoZ8
  have ed := dg16_lit
  have cP := fun W => SZ.piecesD_any s (by omega) W
  have hn := posns_len s
  have hnI : ((posns s).length : Int) ≤ 1048600 := by omega
  have HS := Lib.hid hs
  clear hs
  go_enter Tryd.func36, Tryd.ntmps36
  rw [ed]
  go_wp2_with (first
    | (at_builtin; refine wpList_append_own _ rfl _ _ 46 rfl w.heap.size 5 i0 (.int .u8 0) 1 1 Tryd.underlying46 hi hz0 hz1 hz2 rfl (by decide) (.slice none 0 0) 0 [] rfl (World.ownsRow_nil _ _ _ _) ⟨w.heap.size, 0, none⟩ 1 1 [.int .u8 34] rfl rfl (World.news_of_block (cs := #[.int .u8 34]) (t := 5) (fr := (0, 0)) (World.alloc_heap_new w _)) (fun x hx => by simp at hx; subst hx; rfl) (by unfold maxLen; omega) (by omega) (by simp) ?_; intro v1 w1 hown1 hgrow1 _; have HB1 := Lib.hid (((Below.refl w.heap.size w).alloc (Nat.le_refl _) (.cells #[.int .u8 34] 5)).grown hgrow1 (by simp) (fun j hj => by simp [Value.ownBlock] at hj)); have HO1 := Lib.hid hown1; obtain ⟨o1, c1, rfl, _⟩ := own_slice hown1; clear hown1 hgrow1)
    | (go_at_call 61; refine (cP _).mono ?_; rintro e w2 ⟨vp, rfl, hp2, hb2⟩; obtain ⟨op, cp, rfl, hop⟩ := own_slice hp2; have H2 := Lib.hid (show QdL s w w1.heap.size (.slice op (posns s).length cp) (.slice o1 1 c1) [34] w2 from ⟨own_below HO1.out hb2, hp2, HB1.out.trans (hb2.mono HB1.out.size)⟩); have HOP := Lib.hid hop; clear hp2 hb2 hop))
  go_loopw [3, 5] (fun vo vi wr => ∃ k : Nat, vi = .int .i64 k ∧ Hid (k ≤ (posns s).length ∧ QdL s w w1.heap.size (.slice op (posns s).length cp) vo (qL s ((posns s).take k)) wr)) (fun _ vi _ => (posns s).length - (RowKit.intOf vi).toNat)
  case atStart => exact ⟨0, rfl, by omega, H2.out⟩
  case round =>
    obtain ⟨k, rfl, HR⟩ := hrel
    rename World => X
    obtain ⟨hk, hQ⟩ := HR.out
    obtain ⟨n, hnn⟩ : ∃ n, (posns s).length = n := ⟨_, rfl⟩
    have hql := qL_len s ((posns s).take k) (fun i hi => (posG_ge s 0 i (posns_G s ▸ List.mem_of_mem_take hi)).2)
    have hkl : ((posns s).take k).length ≤ 1048600 := by rw [List.length_take]; have := HS.out; omega
    obtain ⟨oo, oc, rfl, _⟩ := own_slice hQ.o
    clear cP H2 HR
    by_cases hkn : k < (posns s).length
    case neg =>
      have hke : ¬ (k : Int) < ((posns s).length : Int) := by omega
      have hqs : quoB s = ⟨(qL s ((posns s).take k) ++ [34]).toArray⟩ := by unfold quoB; rw [List.take_of_length_le (by omega)]
      obtain ⟨Q, hQe⟩ : ∃ Q, qL s ((posns s).take k) = Q := ⟨_, rfl⟩
      rw [hQe] at hQ hqs hql ⊢
      have hQl : Q.length ≤ 9437401 := by omega
      have HE := Lib.hid hqs
      have HQ := Lib.hid hQ
      have hw2 : w.heap.size ≤ X.heap.size := hQ.b.size
      have eS : Lib.strCells ⟨(Q ++ [34]).toArray⟩ = bC Q ++ [.int .u8 34] := by rw [bC_str, bC_app]; rfl
      have eZ : (⟨(Q ++ [34]).toArray⟩ : ByteArray).size = Q.length + 1 := by
        show (Q ++ [34]).toArray.size = _
        simp
      clear hk hql hkl hQ hqs hkn hQe hn hnn
      go_wp2_with (at_builtin; refine wpList_append_own _ rfl _ _ 46 rfl w.heap.size 5 i0 (.int .u8 0) 1 1 Tryd.underlying46 hi hz0 hz1 hz2 rfl (by decide) (.slice oo Q.length oc) _ _ rfl (HQ.out.o.alloc _) ⟨X.heap.size, 0, none⟩ 1 1 [.int .u8 34] rfl rfl (World.news_of_block (cs := #[.int .u8 34]) (t := 5) (fr := (0, 0)) (World.alloc_heap_new X _)) (fun x hx => by simp at hx; subst hx; rfl) (by unfold maxLen; omega) (by omega) (by simp; omega) ?_; intro v' w5 hown' hgrow _; have hcv := conv_own eZ (by rw [eS]; exact hown'); have HB := Lib.hid ((HQ.out.b.alloc HQ.out.b.size _).grown hgrow (by simp; omega) (fun j hj => (HQ.out.o.lt j hj).1)); clear hown' hgrow)
      go_ret
      exact ⟨⟨by rw [HE.out]; rfl, HB.out⟩⟩
    obtain ⟨q, hq⟩ : ∃ q, (posns s)[k]? = some q := ⟨_, List.getElem?_eq_getElem hkn⟩
    have hqs : q < s.size := (posG_ge s 0 q (posns_G s ▸ List.mem_of_getElem? hq)).2
    obtain ⟨g, rfl⟩ := HOP.out (by omega)
    have hnx : qL s ((posns s).take (k + 1)) = qL s ((posns s).take k) ++ qP s q := by
      rw [List.take_add_one, hq, Option.toList_some, qL_next]
    obtain ⟨m0, m2, m3⟩ := hQ.cells hq
    obtain ⟨Q, hQe⟩ : ∃ Q, qL s ((posns s).take k) = Q := ⟨_, rfl⟩
    rw [hQe] at hQ hnx hql ⊢
    have hQl : Q.length ≤ 9437401 := by omega
    obtain ⟨r, hr⟩ : ∃ r, rn s q = r := ⟨_, rfl⟩
    rw [hr] at m2
    have hr0 := rn_lt s q hqs
    rw [hr] at hr0
    have hkI : (k : Int) < ((posns s).length : Int) := by omega
    have hw2 : w.heap.size ≤ X.heap.size := hQ.b.size
    have HQ := Lib.hid hQ
    have HN := Lib.hid (And.intro hnx (And.intro hkn (And.intro hr hqs)))
    clear hk hql hkl hq hnx hkn hQ hn hnn hQe
    have hgo : ∀ (M : List UInt8) (v' : Value) (Y Z : World), qP s q = M → QdL s w w1.heap.size (.slice (some ⟨g, 0, none⟩) (posns s).length cp) (.slice oo Q.length oc) Q Y → Z.ownsRow w.heap.size 5 1 v' (Q.length + M.length) (bC Q ++ bC M) → Y.grownBy Z (Value.slice oo Q.length oc).ownBlock → QdL s w w1.heap.size (.slice (some ⟨g, 0, none⟩) (posns s).length cp) v' (qL s ((posns s).take (k + 1))) Z := fun M v' Y Z hM hY ho hg => by rw [HN.out.1, hM]; exact hY.app ho hg
    have HGO := Lib.hid hgo
    clear hgo
    cases hbk : bk s q with
    | true =>
      rw [hbk] at m3
      obtain ⟨b, hb⟩ : ∃ b, bt s q = b := ⟨_, rfl⟩
      obtain ⟨x, hx⟩ : ∃ x, b / 16 = x := ⟨_, rfl⟩
      obtain ⟨y, hy⟩ : ∃ y, b % 16 = y := ⟨_, rfl⟩
      have hqM : qP s q = [92, 120, hxD x, hxD y] := by
        unfold qP
        rw [if_pos hbk, hb, ← hx, ← hy]; rfl
      have hb8 : b < 256 := by rw [← hb]; exact bt_lt s q
      have hqs := HN.out.2.2.2
      have hbi : ((s[q]'hqs).toNat : Int) = (b : Int) := by rw [bt_get s q hqs, hb]
      have eM : bC [92, 120, hxD x, hxD y] = [.int .u8 92, .int .u8 120, .int .u8 ((hxD x).toNat : Int), .int .u8 ((hxD y).toNat : Int)] := rfl
      have hqsI : (q : Int) < (s.size : Int) := by omega
      have hd1 : (b : Int) / 16 = (x : Int) := by omega
      have hd2 : (b : Int) % 16 = (y : Int) := by omega
      have ht2 : (b : Int).tmod 16 = (y : Int) := by rw [Int.tmod_eq_emod_of_nonneg (by omega)]; omega
      have hw8 : IntKind.u8.wrap (x : Int) = (x : Int) := by rw [IntKind.wrap_u8]; omega
      have hw9 : IntKind.u8.wrap (y : Int) = (y : Int) := by rw [IntKind.wrap_u8]; omega
      have hi1 := fun W => idx_hx .u8 (x : Int) x rfl (by omega) W
      have hi2 := fun W => idx_hx .u8 (y : Int) y rfl (by omega) W
      have hI0 := hi
      clear hb hx hy
      go_wp2
      refine wp_region_noPanic ?_
      refine wp_region_g (S := untilG [] (fun _ => True)) (by kernel_rfl) ?_
      obtain ⟨X0, hX0⟩ : ∃ Z, X.drew = Z := ⟨_, rfl⟩
      have U0 : Below X.heap.size X X0 := hX0 ▸ (Below.refl X.heap.size X).drew
      have T0 : True := trivial
      have hw3 : w.heap.size ≤ X0.heap.size := Nat.le_trans hw2 U0.size
      rw [hX0]
      clear hX0
      refine wpAnyG_take [0, 8, 9] (i := 0) (v := (.slice oo Q.length oc)) rfl (by kernel_rfl) (by kernel_rfl) (by kernel_rfl) (by kernel_rfl) (by kernel_rfl) (by kernel_rfl) (by kernel_rfl) (by kernel_rfl) (fun _ _ _ h => h) (Or.inl ⟨by rfl, ?hy⟩) T0 ?_
      case hy =>
        intro X hX
        go_simp
      try simp only [Act.put, List.getElem_toArray, List.getElem_cons_zero, List.getElem_cons_succ, List.setIfInBounds_toArray, List.set_cons_zero, List.set_cons_succ]
      refine wpAnyG_take [1, 2, 3, 7, 8, 9] (i := 1) (v := (.int .u8 b)) rfl (by kernel_rfl) (by kernel_rfl) (by kernel_rfl) (by kernel_rfl) (by kernel_rfl) (by kernel_rfl) (by kernel_rfl) (by kernel_rfl) (fun _ _ _ h => h) (Or.inl ⟨by rfl, ?hy⟩) T0 ?_
      case hy =>
        intro X hX
        go_simp
      try simp only [Act.put, List.getElem_toArray, List.getElem_cons_zero, List.getElem_cons_succ, List.setIfInBounds_toArray, List.set_cons_zero, List.set_cons_succ]
      refine wpAnyG_take [2, 3, 7, 8, 9] (i := 2) (v := (.int .u8 x)) rfl (by kernel_rfl) (by kernel_rfl) (by kernel_rfl) (by kernel_rfl) (by kernel_rfl) (by kernel_rfl) (by kernel_rfl) (by kernel_rfl) (fun _ _ _ h => h) (Or.inl ⟨by rfl, ?hy⟩) T0 ?_
      case hy =>
        intro X hX
        go_simp
      try simp only [Act.put, List.getElem_toArray, List.getElem_cons_zero, List.getElem_cons_succ, List.setIfInBounds_toArray, List.set_cons_zero, List.set_cons_succ]
      refine wpAnyG_take [3, 7, 8, 9] (i := 3) (v := (.int .u8 ((hxD x).toNat : Int))) rfl (by kernel_rfl) (by kernel_rfl) (by kernel_rfl) (by kernel_rfl) (by kernel_rfl) (by kernel_rfl) (by kernel_rfl) (by kernel_rfl) (fun _ _ _ h => h) (Or.inl ⟨by rfl, ?hy⟩) T0 ?_
      case hy =>
        intro X hX
        go_simp
      try simp only [Act.put, List.getElem_toArray, List.getElem_cons_zero, List.getElem_cons_succ, List.setIfInBounds_toArray, List.set_cons_zero, List.set_cons_succ]
      refine wpAnyG_take [4, 5, 6, 7, 8, 9] (i := 4) (v := (.int .u8 b)) rfl (by kernel_rfl) (by kernel_rfl) (by kernel_rfl) (by kernel_rfl) (by kernel_rfl) (by kernel_rfl) (by kernel_rfl) (by kernel_rfl) (fun _ _ _ h => h) (Or.inl ⟨by rfl, ?hy⟩) T0 ?_
      case hy =>
        intro X hX
        go_simp
      try simp only [Act.put, List.getElem_toArray, List.getElem_cons_zero, List.getElem_cons_succ, List.setIfInBounds_toArray, List.set_cons_zero, List.set_cons_succ]
      refine wpAnyG_take [5, 6, 7, 8, 9] (i := 5) (v := (.int .u8 y)) rfl (by kernel_rfl) (by kernel_rfl) (by kernel_rfl) (by kernel_rfl) (by kernel_rfl) (by kernel_rfl) (by kernel_rfl) (by kernel_rfl) (fun _ _ _ h => h) (Or.inl ⟨by rfl, ?hy⟩) T0 ?_
      case hy =>
        intro X hX
        go_simp
      try simp only [Act.put, List.getElem_toArray, List.getElem_cons_zero, List.getElem_cons_succ, List.setIfInBounds_toArray, List.set_cons_zero, List.set_cons_succ]
      refine wpAnyG_take [6, 7, 8, 9] (i := 6) (v := (.int .u8 ((hxD y).toNat : Int))) rfl (by kernel_rfl) (by kernel_rfl) (by kernel_rfl) (by kernel_rfl) (by kernel_rfl) (by kernel_rfl) (by kernel_rfl) (by kernel_rfl) (fun _ _ _ h => h) (Or.inl ⟨by rfl, ?hy⟩) T0 ?_
      case hy =>
        intro X hX
        go_simp
      try simp only [Act.put, List.getElem_toArray, List.getElem_cons_zero, List.getElem_cons_succ, List.setIfInBounds_toArray, List.set_cons_zero, List.set_cons_succ]
      refine wpAnyG_all (rs := [7]) (by kernel_rfl) (by simp) ?_
      intro i hi
      simp only [List.mem_cons, List.not_mem_nil, or_false] at hi
      subst hi
      refine wpOp_now rfl rfl ?_
      go_simp
      refine ⟨fun _ => T0, ?_⟩
      try simp only [Act.put, List.getElem_toArray, List.getElem_cons_zero, List.getElem_cons_succ, List.setIfInBounds_toArray, List.set_cons_zero, List.set_cons_succ]
      refine wpAnyG_all (rs := [8]) (by kernel_rfl) (by simp) ?_
      intro i hi
      simp only [List.mem_cons, List.not_mem_nil, or_false] at hi
      subst hi
      refine wpOp_now rfl rfl ?_
      refine opwp_append _ _ 46 rfl w.heap.size 5 i0 (.int .u8 0) 1 1 Tryd.underlying46 hI0 hz0 hz1 hz2 rfl (by decide) (.slice oo Q.length oc) _ _ rfl ((own_below HQ.out.o U0).alloc _) ⟨X0.heap.size, 0, none⟩ 4 4 [.int .u8 92, .int .u8 120, .int .u8 ((hxD x).toNat : Int), .int .u8 ((hxD y).toNat : Int)] rfl rfl (World.news_of_block (cs := #[.int .u8 92, .int .u8 120, .int .u8 ((hxD x).toNat : Int), .int .u8 ((hxD y).toNat : Int)]) (t := 5) (fr := (0, 0)) (World.alloc_heap_new X0 _)) (fun x hx => by simp at hx; rcases hx with rfl | rfl | rfl | rfl <;> rfl) (by unfold maxLen; omega) (by omega) (by simp; omega) ?_
      intro v' w5 hown' hgrow
      have H5 := Lib.hid (HGO.out [92, 120, hxD x, hxD y] v' _ w5 hqM ((HQ.out.below U0).below ((Below.refl _ _).alloc (Nat.le_refl _) _)) (by rw [eM]; exact hown') hgrow)
      clear hown' hgrow
      refine ⟨fun _ => T0, ?_⟩
      try simp only [Act.put, List.getElem_toArray, List.getElem_cons_zero, List.getElem_cons_succ, List.setIfInBounds_toArray, List.set_cons_zero, List.set_cons_succ]
      refine wpAnyG_all (rs := [9]) (by kernel_rfl) (by simp) ?_
      intro i hi
      simp only [List.mem_cons, List.not_mem_nil, or_false] at hi
      subst hi
      refine wpOp_now rfl rfl ?_
      go_simp
      refine ⟨fun _ => T0, ?_⟩
      try simp only [Act.put, List.getElem_toArray, List.getElem_cons_zero, List.getElem_cons_succ, List.setIfInBounds_toArray, List.set_cons_zero, List.set_cons_succ]
      refine wpAnyG_done (by kernel_rfl) ?_ _
      refine NoPanic.normal ?_
      go_wp2
      go_roundw
      case rel => exact ⟨k + 1, by go_num, HN.out.2.1, H5.out⟩
      case measure => have := HN.out.2.1; simp [intOf]; omega
    | false =>
      rw [hbk] at m3
      have hcs : r = 34 ∨ r = 92 ∨ (32 ≤ r ∧ r ≤ 126 ∧ r ≠ 34 ∧ r ≠ 92) ∨ (r < 32 ∨ 127 ≤ r) := by omega
      rcases hcs with ha | ha | ha | ha
      · subst ha
        have eM : bC [92, 34] = [.int .u8 92, .int .u8 34] := rfl
        have hqM : qP s q = [92, 34] := by
          unfold qP qR
          rw [HN.out.2.2.1, if_neg (by rw [hbk]; simp), if_pos (by omega)]
          rfl
        go_wp2_with (at_builtin; refine wpList_append_own _ rfl _ _ 46 rfl w.heap.size 5 i0 (.int .u8 0) 1 1 Tryd.underlying46 hi hz0 hz1 hz2 rfl (by decide) (.slice oo Q.length oc) _ _ rfl (HQ.out.o.alloc _) ⟨X.heap.size, 0, none⟩ 2 2 [.int .u8 92, .int .u8 34] rfl rfl (World.news_of_block (cs := #[.int .u8 92, .int .u8 34]) (t := 5) (fr := (0, 0)) (World.alloc_heap_new X _)) (fun x hx => by simp at hx; rcases hx with rfl | rfl <;> rfl) (by unfold maxLen; omega) (by omega) (by simp; omega) ?_; intro v' w5 hown' hgrow _; have H5 := Lib.hid (HGO.out [92, 34] v' _ w5 hqM (HQ.out.below ((Below.refl _ _).alloc (Nat.le_refl _) _)) (by rw [eM]; exact hown') hgrow); clear hown' hgrow)
        go_roundw
        case rel => exact ⟨k + 1, by go_num, HN.out.2.1, H5.out⟩
        case measure => have := HN.out.2.1; simp [intOf]; omega
      · subst ha
        have eM : bC [92, 92] = [.int .u8 92, .int .u8 92] := rfl
        have hqM : qP s q = [92, 92] := by
          unfold qP qR
          rw [HN.out.2.2.1, if_neg (by rw [hbk]; simp), if_pos (by omega)]
          rfl
        go_wp2_with (at_builtin; refine wpList_append_own _ rfl _ _ 46 rfl w.heap.size 5 i0 (.int .u8 0) 1 1 Tryd.underlying46 hi hz0 hz1 hz2 rfl (by decide) (.slice oo Q.length oc) _ _ rfl (HQ.out.o.alloc _) ⟨X.heap.size, 0, none⟩ 2 2 [.int .u8 92, .int .u8 92] rfl rfl (World.news_of_block (cs := #[.int .u8 92, .int .u8 92]) (t := 5) (fr := (0, 0)) (World.alloc_heap_new X _)) (fun x hx => by simp at hx; rcases hx with rfl | rfl <;> rfl) (by unfold maxLen; omega) (by omega) (by simp; omega) ?_; intro v' w5 hown' hgrow _; have H5 := Lib.hid (HGO.out [92, 92] v' _ w5 hqM (HQ.out.below ((Below.refl _ _).alloc (Nat.le_refl _) _)) (by rw [eM]; exact hown') hgrow); clear hown' hgrow)
        go_roundw
        case rel => exact ⟨k + 1, by go_num, HN.out.2.1, H5.out⟩
        case measure => have := HN.out.2.1; simp [intOf]; omega
      · have a1 : ¬ (r : Int) = 34 := by omega
        have a2 : ¬ (r : Int) = 92 := by omega
        have c1 : ((r : Int) == 34) = false := by rw [beq_eq_false_iff_ne]; exact a1
        have c2 : ((r : Int) == 92) = false := by rw [beq_eq_false_iff_ne]; exact a2
        have a3 : (32 : Int) ≤ (r : Int) := by omega
        have a4 : (r : Int) ≤ 126 := by omega
        have a5 : IntKind.u8.wrap (r : Int) = (r : Int) := by rw [IntKind.wrap_u8]; omega
        have eM : bC [UInt8.ofNat r] = [.int .u8 (r : Int)] := by
          show [Value.int .u8 _] = _
          rw [u8_of (by omega)]
        have hqM : qP s q = [UInt8.ofNat r] := by
          unfold qP qR
          rw [HN.out.2.2.1, if_neg (by rw [hbk]; simp), if_neg (by omega), if_pos ⟨ha.1, ha.2.1⟩]
        clear ha
        go_wp2_with (at_builtin; refine wpList_append_own _ rfl _ _ 46 rfl w.heap.size 5 i0 (.int .u8 0) 1 1 Tryd.underlying46 hi hz0 hz1 hz2 rfl (by decide) (.slice oo Q.length oc) _ _ rfl (HQ.out.o.alloc _) ⟨X.heap.size, 0, none⟩ 1 1 [.int .u8 (r : Int)] rfl rfl (World.news_of_block (cs := #[.int .u8 (r : Int)]) (t := 5) (fr := (0, 0)) (World.alloc_heap_new X _)) (fun x hx => by simp at hx; subst hx; rfl) (by unfold maxLen; omega) (by omega) (by simp; omega) ?_; intro v' w5 hown' hgrow _; have H5 := Lib.hid (HGO.out [UInt8.ofNat r] v' _ w5 hqM (HQ.out.below ((Below.refl _ _).alloc (Nat.le_refl _) _)) (by rw [eM]; exact hown') hgrow); clear hown' hgrow)
        go_roundw
        case rel => exact ⟨k + 1, by go_num, HN.out.2.1, H5.out⟩
        case measure => have := HN.out.2.1; simp [intOf]; omega
      · have a1 : ¬ (r : Int) = 34 := by omega
        have a2 : ¬ (r : Int) = 92 := by omega
        have c1 : ((r : Int) == 34) = false := by rw [beq_eq_false_iff_ne]; exact a1
        have c2 : ((r : Int) == 92) = false := by rw [beq_eq_false_iff_ne]; exact a2
        have hqM : qP s q = 92 :: 123 :: (hexL r ++ [125]) := by
          unfold qP qR
          rw [HN.out.2.2.1, if_neg (by rw [hbk]; simp), if_neg (by omega), if_neg (by omega)]
          simp
        have HM := Lib.hid hqM
        have e17 : (16 : Nat) ^ (5 + 1) = 16777216 := by decide
        have hxl : (hexL r).length ≤ 6 := hexL_len 5 (by omega)
        have HXL := Lib.hid hxl
        obtain ⟨x, hx⟩ : ∃ x, r % 16 = x := ⟨_, rfl⟩
        have hx16 : x < 16 := by omega
        have hmI : (r : Int) % 16 = (x : Int) := by omega
        have hi1 := fun W => idx_hx .i32 (x : Int) x rfl hx16 W
        have hcv := fun X => conv_one X (hxD x).toNat (UInt8.toNat_lt _)
        simp only [UInt8.ofNat_toNat] at hcv
        have HX0 := Lib.hid hx
        clear hqM e17 hxl hx hx16
        have hcond : ∃ b1 b2 : Bool, decide ((32 : Int) ≤ (r : Int)) = b1 ∧ decide ((r : Int) ≤ 126) = b2 ∧ (b1 && b2) = false := ⟨_, _, rfl, rfl, by rw [Bool.and_eq_false_iff, decide_eq_false_iff_not, decide_eq_false_iff_not]; omega⟩
        clear hcond
        rcases ha with ha | ha
        · have a3 : ¬ (32 : Int) ≤ (r : Int) := by omega
          clear ha
          go_wp2
          go_loopw [6, 8] (fun vr vd wr => ∃ (u : Nat) (L : List UInt8), vr = .int .i32 u ∧ vd = .string ⟨L.toArray⟩ ∧ Hid (hexL r = preX u ++ L ∧ u ≤ 1114111 ∧ Below X.heap.size X wr)) (fun vr _ _ => (RowKit.intOf vr).toNat)
          case atStart => exact ⟨r, [hxD x], rfl, rfl, by rw [hexL_pre, HX0.out], hr0, (Below.refl _ _).alloc (Nat.le_refl _) _⟩
          case round =>
            obtain ⟨u, L, rfl, rfl, HU⟩ := hrel
            rename World => Y
            clear hi1 hcv hmI
            have hu := HU.out.2.1
            have hLl : L.length ≤ 6 := by
              have h1 := congrArg List.length HU.out.1
              rw [List.length_append] at h1
              have := HXL.out
              omega
            by_cases h15 : 15 < u
            · have hvI : (15 : Int) < (u : Int) := by omega
              obtain ⟨v, hv⟩ : ∃ v, u / 16 = v := ⟨_, rfl⟩
              obtain ⟨y, hy⟩ : ∃ y, v % 16 = y := ⟨_, rfl⟩
              have hy16 : y < 16 := by omega
              have hu3 : (v : Int) ≤ 1114111 := by omega
              have huI : (u : Int) / 16 = (v : Int) := by omega
              have hyI : (v : Int) % 16 = (y : Int) := by omega
              have hi1 := fun W => idx_hx .i32 (y : Int) y rfl hy16 W
              have hcv := fun X => conv_one X (hxD y).toNat (UInt8.toNat_lt _)
              simp only [UInt8.ofNat_toNat] at hcv
              have HF := Lib.hid (And.intro h15 (And.intro hv hy))
              clear h15 hv hy hy16 hu
              go_wp2
              go_roundw
              case rel =>
                obtain ⟨h15, hv, hy⟩ := HF.out
                refine ⟨v, hxD y :: L, rfl, congrArg Value.string (ByteArray.ext (by rw [ByteArray.data_append]; simp)), ?_, by omega, HU.out.2.2.alloc HU.out.2.2.size _⟩
                rw [HU.out.1, preX_big (by omega : ¬ u < 16), hv, hy, List.append_assoc]
                rfl
              case measure =>
                obtain ⟨h15, hv, hy⟩ := HF.out
                simp [intOf]; omega
            · have hvI : ¬ (15 : Int) < (u : Int) := by omega
              have e : hexL r = L := by rw [HU.out.1]; unfold preX; rw [if_pos (by omega)]; rfl
              have hb2 := HU.out.2.2
              have hw4 : w.heap.size ≤ Y.heap.size := Nat.le_trans hw2 hb2.size
              have HL := Lib.hid (show qP s q = 92 :: 123 :: (L ++ [125]) by rw [HM.out, e])
              obtain ⟨M, hM⟩ : ∃ M, 92 :: 123 :: (L ++ [125]) = M := ⟨_, rfl⟩
              have eM2 : Lib.strCells ⟨M.toArray⟩ = bC M := bC_str M
              have eM3 : (⟨M.toArray⟩ : ByteArray).size = M.length := rfl
              have eM4 : M.length ≤ 9 := by rw [← hM]; simp; omega
              have HM2 := Lib.hid hM
              have HY := Lib.hid (HQ.out.below hb2)
              clear e hb2 hu h15 hM
              go_wp2_with (at_builtin; refine Lib.wpList_append_own_string _ rfl _ _ 46 9 rfl w.heap.size 5 i0 Tryd.underlying46 Tryd.underlying9 hi hz0 hz1 hz2 (.slice oo Q.length oc) _ _ rfl HY.out.o ⟨M.toArray⟩ (by first | rfl | (refine congrArg Value.string ?_; rw [← HM2.out]; done) | (refine congrArg Value.string ?_; rw [← HM2.out]; apply ByteArray.ext; simp [ByteArray.data_append]; done)) (by rw [eM3]; unfold maxLen; omega) (by rw [eM3]; omega) hw4 ?_; intro v' w5 hown' hgrow _; have H5 := Lib.hid (HGO.out M v' _ w5 (by rw [HL.out, HM2.out]) HY.out (by rw [eM2, eM3] at hown'; exact hown') hgrow); clear hown' hgrow)
              go_roundw
              case rel => exact ⟨k + 1, by go_num, HN.out.2.1, H5.out⟩
              case measure => have := HN.out.2.1; simp [intOf]; omega
        · have a3 : (32 : Int) ≤ (r : Int) := by omega
          have a4 : ¬ (r : Int) ≤ 126 := by omega
          clear ha
          go_wp2
          go_loopw [6, 8] (fun vr vd wr => ∃ (u : Nat) (L : List UInt8), vr = .int .i32 u ∧ vd = .string ⟨L.toArray⟩ ∧ Hid (hexL r = preX u ++ L ∧ u ≤ 1114111 ∧ Below X.heap.size X wr)) (fun vr _ _ => (RowKit.intOf vr).toNat)
          case atStart => exact ⟨r, [hxD x], rfl, rfl, by rw [hexL_pre, HX0.out], hr0, (Below.refl _ _).alloc (Nat.le_refl _) _⟩
          case round =>
            obtain ⟨u, L, rfl, rfl, HU⟩ := hrel
            rename World => Y
            clear hi1 hcv hmI
            have hu := HU.out.2.1
            have hLl : L.length ≤ 6 := by
              have h1 := congrArg List.length HU.out.1
              rw [List.length_append] at h1
              have := HXL.out
              omega
            by_cases h15 : 15 < u
            · have hvI : (15 : Int) < (u : Int) := by omega
              obtain ⟨v, hv⟩ : ∃ v, u / 16 = v := ⟨_, rfl⟩
              obtain ⟨y, hy⟩ : ∃ y, v % 16 = y := ⟨_, rfl⟩
              have hy16 : y < 16 := by omega
              have hu3 : (v : Int) ≤ 1114111 := by omega
              have huI : (u : Int) / 16 = (v : Int) := by omega
              have hyI : (v : Int) % 16 = (y : Int) := by omega
              have hi1 := fun W => idx_hx .i32 (y : Int) y rfl hy16 W
              have hcv := fun X => conv_one X (hxD y).toNat (UInt8.toNat_lt _)
              simp only [UInt8.ofNat_toNat] at hcv
              have HF := Lib.hid (And.intro h15 (And.intro hv hy))
              clear h15 hv hy hy16 hu
              go_wp2
              go_roundw
              case rel =>
                obtain ⟨h15, hv, hy⟩ := HF.out
                refine ⟨v, hxD y :: L, rfl, congrArg Value.string (ByteArray.ext (by rw [ByteArray.data_append]; simp)), ?_, by omega, HU.out.2.2.alloc HU.out.2.2.size _⟩
                rw [HU.out.1, preX_big (by omega : ¬ u < 16), hv, hy, List.append_assoc]
                rfl
              case measure =>
                obtain ⟨h15, hv, hy⟩ := HF.out
                simp [intOf]; omega
            · have hvI : ¬ (15 : Int) < (u : Int) := by omega
              have e : hexL r = L := by rw [HU.out.1]; unfold preX; rw [if_pos (by omega)]; rfl
              have hb2 := HU.out.2.2
              have hw4 : w.heap.size ≤ Y.heap.size := Nat.le_trans hw2 hb2.size
              have HL := Lib.hid (show qP s q = 92 :: 123 :: (L ++ [125]) by rw [HM.out, e])
              obtain ⟨M, hM⟩ : ∃ M, 92 :: 123 :: (L ++ [125]) = M := ⟨_, rfl⟩
              have eM2 : Lib.strCells ⟨M.toArray⟩ = bC M := bC_str M
              have eM3 : (⟨M.toArray⟩ : ByteArray).size = M.length := rfl
              have eM4 : M.length ≤ 9 := by rw [← hM]; simp; omega
              have HM2 := Lib.hid hM
              have HY := Lib.hid (HQ.out.below hb2)
              clear e hb2 hu h15 hM
              go_wp2_with (at_builtin; refine Lib.wpList_append_own_string _ rfl _ _ 46 9 rfl w.heap.size 5 i0 Tryd.underlying46 Tryd.underlying9 hi hz0 hz1 hz2 (.slice oo Q.length oc) _ _ rfl HY.out.o ⟨M.toArray⟩ (by first | rfl | (refine congrArg Value.string ?_; rw [← HM2.out]; done) | (refine congrArg Value.string ?_; rw [← HM2.out]; apply ByteArray.ext; simp [ByteArray.data_append]; done)) (by rw [eM3]; unfold maxLen; omega) (by rw [eM3]; omega) hw4 ?_; intro v' w5 hown' hgrow _; have H5 := Lib.hid (HGO.out M v' _ w5 (by rw [HL.out, HM2.out]) HY.out (by rw [eM2, eM3] at hown'; exact hown') hgrow); clear hown' hgrow)
              go_roundw
              case rel => exact ⟨k + 1, by go_num, HN.out.2.1, H5.out⟩
              case measure => have := HN.out.2.1; simp [intOf]; omega
end Go.Proofs.YtjccoiephdopkaaDoor
