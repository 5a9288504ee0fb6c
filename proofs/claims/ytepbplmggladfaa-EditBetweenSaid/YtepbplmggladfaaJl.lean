/- Stage 27: Apply. -/
import Derived.Test.YtepbplmggladfaaJh
import Derived.Test.YtepbplmggladfaaJp
namespace Go.Proofs.Ytepbplmggladfaa
set_option linter.unusedVariables false
set_option linter.unusedSimpArgs false
open Go Go.RowKit Go.Shelf
set_option maxRecDepth 100000

theorem run_Ks (n : Nat) (A : List Atm) (s : List UInt8) (h : n ≤ s.length) : runA (List.replicate n .K ++ A) s = (runA A (s.drop n)).map fun r => (s.take n ++ r.1, r.2) := by
  induction n generalizing s with
  | zero => cases hr : runA A s <;> simp [hr]
  | succ n ih =>
    cases s with
    | nil => simp at h
    | cons c s =>
      rw [List.replicate_succ, List.cons_append, runA, ih s (by simpa using h)]
      cases hr : runA A (s.drop n) <;> simp [hr]
theorem run_Ps (ps : List UInt8) (A : List Atm) (s : List UInt8) : runA (ps.map .P ++ A) s = (runA A s).map fun r => (ps ++ r.1, r.2) := by
  induction ps with
  | nil => cases hr : runA A s <;> simp [hr]
  | cons c ps ih =>
    rw [List.map_cons, List.cons_append, runA, ih]
    cases hr : runA A s <;> simp
theorem run_Ds (ds : List UInt8) (A : List Atm) (s : List UInt8) (h : ds.length ≤ s.length) : runA (ds.map .D ++ A) s = if s.take ds.length = ds then runA A (s.drop ds.length) else none := by
  induction ds generalizing s with
  | nil => simp
  | cons d ds ih =>
    cases s with
    | nil => simp at h
    | cons c s =>
      rw [List.map_cons, List.cons_append, runA, ih s (by simpa using h)]
      by_cases e : c = d
      · subst e; simp
      · simp [e]
theorem run_step {x : Sp} (hx : okSp x) (A : List Atm) (s : List UInt8) (h : inA (atS x) ≤ s.length) :
    runA (atS x ++ A) s = if s.take x.d.size = bL x.d then (runA A (s.drop (x.k.toNat + x.d.size))).map fun r => (s.take x.k.toNat ++ bL x.p ++ r.1, r.2) else none := by
  rw [(in_atS x).1] at h
  obtain ⟨k, d, p⟩ := x
  rcases kind_three k d p with h0 | ⟨h1, h2, h3, h4⟩ | ⟨h1, h2, h3, h4⟩ | ⟨h1, h2, h3, h4⟩
  · exact absurd h0 hx.1
  · subst h2; subst h3
    simp only [emp_size, Nat.add_zero] at h
    have e : atS ⟨k, .empty, .empty⟩ = List.replicate k.toNat .K := by simp [atS, bL_emp]
    rw [e, run_Ks _ _ _ h]
    simp [emp_size, bL_emp]
  · subst h1; subst h2
    have e : atS ⟨0, d, .empty⟩ = (bL d).map .D := by simp [atS, bL_emp]
    rw [e, run_Ds _ _ _ (by rw [bL_len]; simpa using h), bL_len]
    simp only [Int.toNat_zero, Nat.zero_add, List.take_zero, bL_emp, List.append_nil, List.nil_append]
    split
    · cases runA A (s.drop d.size) <;> rfl
    · rfl
  · subst h1; subst h2
    have e : atS ⟨0, .empty, p⟩ = (bL p).map .P := by simp [atS, bL_emp]
    rw [e, run_Ps]
    simp [emp_size, bL_emp]
/-- What Apply answers of a change of as many bytes. -/
def AppR (s : ByteArray) (l : List Sp) (e : Ending) : Prop :=
  (runA (atL l) (bL s) = none ∧ e = .returned (.tuple #[.string .empty, .int .i64 270])) ∨ ∃ t : ByteArray, runA (atL l) (bL s) = some (bL t, []) ∧ e = .returned (.tuple #[.string t, .int .i64 0])
theorem infoByte : (Try.prog.info? 5).map (fun i => (i.zero, i.size, i.bytes)) = some (some (.int .u8 0), 1, 1) := by kernel_rfl
/-- How the loop of Apply stands. -/
structure ApP (s : ByteArray) (l : List Sp) (k at' : Nat) (out : ByteArray) : Prop where
  le : k ≤ l.length
  rn : runA (atL l) (bL s) = (runA (atL (l.drop k)) ((bL s).drop at')).map fun r => (bL out ++ r.1, r.2)
  fr : at' + inA (atL (l.drop k)) = s.size
  ot : out.size + outA (atL (l.drop k)) ≤ 65536
theorem ap_step {s : ByteArray} {l : List Sp} {k at' : Nat} {out : ByteArray} {x : Sp} (h : ApP s l k at' out) (hx : l[k]? = some x) (ho : okSp x) :
    at' + x.d.size ≤ s.size ∧ at' + x.k.toNat ≤ s.size ∧ at' + x.k.toNat + x.d.size ≤ s.size ∧ out.size + x.k.toNat + x.p.size ≤ 65536 ∧
    if bL (s.extract at' (at' + x.d.size)) = bL x.d then ApP s l (k + 1) (at' + x.k.toNat + x.d.size) (out ++ s.extract at' (at' + x.k.toNat) ++ x.p) else runA (atL l) (bL s) = none := by
  have hlt := (List.getElem?_eq_some_iff.1 hx).1
  have hd : l.drop k = x :: l.drop (k + 1) := (List.drop_eq_getElem_cons hlt).trans (by rw [(List.getElem?_eq_some_iff.1 hx).2])
  obtain ⟨h1, h2, h3, h4⟩ := h
  rw [hd, atL_cons] at h2 h3 h4
  rw [inA_append, (in_atS x).1] at h3
  rw [outA_append, (in_atS x).2] at h4
  have hlen : ((bL s).drop at').length = s.size - at' := by rw [List.length_drop, bL_len]
  rw [run_step ho _ _ (by rw [hlen, (in_atS x).1]; omega)] at h2
  refine ⟨by omega, by omega, by omega, by omega, ?_⟩
  rw [bL_ext]
  split
  · rename_i e
    rw [if_pos e] at h2
    refine ⟨hlt, ?_, by omega, ?_⟩
    · rw [h2, List.drop_drop, show at' + (x.k.toNat + x.d.size) = at' + x.k.toNat + x.d.size by omega, bL_app, bL_app, bL_ext]
      cases runA (atL (l.drop (k + 1))) ((bL s).drop (at' + x.k.toNat + x.d.size)) <;> simp
    · have : (s.extract at' (at' + x.k.toNat)).size = x.k.toNat := by rw [ByteArray.size_extract]; omega
      rw [ByteArray.size_append, ByteArray.size_append, this]; omega
  · rename_i e
    rw [if_neg e] at h2
    exact h2
set_option maxHeartbeats 8000000 in
theorem apply_of (s : ByteArray) (l : List Sp) (o : Option Addr) (c T : Nat) (hn : l.length ≤ 9223372036854775807) (ho : OkS l) (hz : sizeG l 0 0 = some (s.size, T)) (w : World) (hr : RowAt w encS 3 o l) :
    Calls Try.prog 12 #[.string s, .slice o l.length c] w fun e w' => AppR s l e ∧ Below w.heap.size w w' := by
  obtain ⟨i0, hi, hz0, hz1, hz2⟩ := info_parts infoByte
  have cS := sizes_any l o c hn ho w hr
  rw [hz] at cS
  obtain ⟨f1, f2, f3⟩ := sizeG_in l 0 0 _ _ hz
  have f4 := plain_cu hz
  have hok : ∀ x ∈ l, okSp x := fun x hx => by
    have := mem_bd hx
    have hk := kind_pos (f3 x hx)
    obtain ⟨_, _, _, g1, g2, _⟩ := f4
    exact ⟨f3 x hx, hk, by omega, by omega, by omega⟩
  have hs6 : s.size ≤ 65536 := f4.2.2.2.1
  have hT6 : T ≤ 65536 := f4.2.2.2.2.1
  have hA0 : ApP s l 0 0 .empty := ⟨Nat.zero_le _, by rw [List.drop_zero, List.drop_zero]; cases runA (atL l) (bL s) <;> simp [bL_emp], by rw [List.drop_zero]; omega, by rw [List.drop_zero]; simp only [emp_size]; omega⟩
  have HR := Lib.hid (And.intro hr (And.intro hok hA0))
  have es : ((s.size : Int) == (s.size : Int)) = true := beq_self_eq_true _
  clear hr f1 f2 f3 f4 hok hA0 hz ho
  go_enter Try.func12, Try.ntmps12
  go_wp2_with (fail)
  refine cS.mono ?_
  rintro e W ⟨rfl, hB⟩
  simp only [szV]
  have HB := Lib.hid hB
  clear hB cS
  have hmk := run_make (P := Try.prog) W 47 5 i0 (.int .u8 0) Try.underlying47 hi hz0 .i64 .i64 0 T (by omega) (by omega) (by rw [hz2]; omega) (by omega)
  have hrow0 : (W.alloc (.cells (madeCells #[Value.int .u8 0] T) 5)).ownsRow w.heap.size 5 1 (.slice (some ⟨W.heap.size, 0, none⟩) 0 T) 0 (Lib.strCells .empty) :=
    ⟨rfl, .inr ⟨W.heap.size, T, _, rfl, HB.out.size, World.alloc_heap_new W _, by omega, by unfold maxLen; omega, by rw [size_madeCells]; simp, rfl⟩⟩
  have hb0 := HB.out.alloc HB.out.size (.cells (madeCells #[Value.int .u8 0] T) 5)
  have H0 := Lib.hid (And.intro hrow0 hb0)
  rw [hz1, show (Value.int .u8 0).cells = #[Value.int .u8 0] from rfl] at hmk
  have hmk' : (Instr.makeSlice 47 (.int .i64 0) (.int .i64 (T : Int))).run Try.prog W = .ok (.slice (some ⟨W.heap.size, 0, none⟩) 0 T) (W.alloc (.cells (madeCells #[Value.int .u8 0] T) 5)) := by
    simpa using hmk
  clear hrow0 hb0 hmk
  go_wp2
  go_loopw [9, 10, 32] (fun v a i X => ∃ (k at' : Nat) (out : ByteArray), i = .int .i64 k ∧ a = .int .i64 at' ∧ ApP s l k at' out ∧ X.ownsRow w.heap.size 5 1 v out.size (Lib.strCells out) ∧ Below w.heap.size w X) (fun _ _ i _ => l.length - (intOf i).toNat)
  case atStart => exact ⟨0, 0, .empty, rfl, rfl, HR.out.2.2, H0.out.1, H0.out.2⟩
  case round =>
    obtain ⟨k, at', out, rfl, rfl, hP, hown, hX⟩ := hrel
    have hk := hP.le
    by_cases hlt : k < l.length
    · obtain ⟨x, hx⟩ : ∃ x, l[k]? = some x := ⟨_, List.getElem?_eq_getElem hlt⟩
      obtain ⟨g, off, rfl, hc⟩ := HR.out.1.below encS_len (by decide) hX k x hx
      obtain ⟨q0, q1, q2⟩ := get3 (l := l) hc
      have hok := HR.out.2.1 x (List.mem_of_getElem? hx)
      obtain ⟨s1, s2, s3, s4, hst⟩ := ap_step hP hx hok
      obtain ⟨kk, d, p⟩ := x
      obtain ⟨kn, rfl⟩ : ∃ kn : Nat, kk = kn := ⟨kk.toNat, by have := hok.2.1; simp only at this; omega⟩
      simp only [Int.toNat_natCast] at s1 s2 s3 s4 hst q0 q1 q2
      have hd6 : d.size ≤ 65536 := hok.2.2.2.1
      have hkn6 : kn ≤ 65536 := by have := hok.2.2.1; simp only at this; omega
      have ho6 : out.size ≤ 65536 := by have := hP.ot; omega
      have hkl : (k : Int) < (l.length : Int) := by omega
      have j5 : IntKind.i64.wrap ((k : Int) + 1) = ((k + 1 : Nat) : Int) := by rw [IntWalk.i64_in _ (by omega)]; omega
      obtain ⟨A, hA⟩ : ∃ A, at' + d.size = A := ⟨_, rfl⟩
      obtain ⟨K, hK⟩ : ∃ K, at' + kn = K := ⟨_, rfl⟩
      obtain ⟨D, hD⟩ : ∃ D, kn + d.size = D := ⟨_, rfl⟩
      obtain ⟨E, hE⟩ : ∃ E, at' + D = E := ⟨_, rfl⟩
      have j1 : IntKind.i64.wrap ((at' : Int) + (d.size : Int)) = (A : Int) := by rw [IntWalk.i64_in _ (by omega)]; omega
      have j2 : IntKind.i64.wrap ((at' : Int) + (kn : Int)) = (K : Int) := by rw [IntWalk.i64_in _ (by omega)]; omega
      have j3 : IntKind.i64.wrap ((kn : Int) + (d.size : Int)) = (D : Int) := by rw [IntWalk.i64_in _ (by omega)]; omega
      have j4 : IntKind.i64.wrap ((at' : Int) + (D : Int)) = (E : Int) := by rw [IntWalk.i64_in _ (by omega)]; omega
      have b1 : (at' : Int) ≤ (A : Int) := by omega
      have b2 : (A : Int) ≤ (s.size : Int) := by omega
      have b3 : (at' : Int) ≤ (K : Int) := by omega
      have b4 : (K : Int) ≤ (s.size : Int) := by omega
      rw [hA] at hst
      rw [hK] at hst
      have hEe : K + d.size = E := by omega
      rw [hEe] at hst
      have hbe := bL_eq (s.extract at' A) d
      have hex : (s.extract at' K).size = kn := by rw [ByteArray.size_extract]; omega
      have n := Blk.new wr #[.int .i64 kn, .string d, .string p] 36
      have hb := (Below.refl wr.heap.size wr).alloc (Nat.le_refl _) (.cells #[.int .i64 kn, .string d, .string p] 36)
      have m1 := n.cell 1
      simp only [List.getElem?_toArray, List.getElem?_cons_succ, List.getElem?_cons_zero] at m1
      have HK := Lib.hid (And.intro hst (And.intro hown (And.intro hX (And.intro n (And.intro hb (And.intro hex s4))))))
      obtain ⟨ov, cv, rfl, _⟩ := own_slice hown
      by_cases heq : bL (s.extract at' A) = bL d
      · rw [decide_eq_true heq] at hbe
        have HE := Lib.hid heq
        clear hown hX hc hst n hb hP hx hA hK hD hE s1 s2 s3 s4 hex heq hEe hok
        go_wp2
        go_quiet (fail)
        generalize hU : World.drewN _ _ = U
        have hbU := HK.out.2.2.2.2.1.trans ((hU ▸ below_drewN _ _ : Below (wr.alloc (.cells #[.int .i64 kn, .string d, .string p] 36)).heap.size (wr.alloc (.cells #[.int .i64 kn, .string d, .string p] 36)) U).mono (by simp))
        have nU := HK.out.2.2.2.1.below' (hU ▸ below_drewN _ _ : Below (wr.alloc (.cells #[.int .i64 kn, .string d, .string p] 36)).heap.size (wr.alloc (.cells #[.int .i64 kn, .string d, .string p] 36)) U)
        obtain ⟨B, hBq⟩ : ∃ B, wr.heap.size = B := ⟨_, rfl⟩
        have hBu : w.heap.size ≤ U.heap.size := Nat.le_trans HK.out.2.2.1.size hbU.size
        have rU := own_below HK.out.2.1 hbU
        have HU := Lib.hid (And.intro (HK.out.2.2.1.trans (hbU.mono HK.out.2.2.1.size)) (And.intro rU nU))
        rw [hBq] at nU ⊢
        have u0 := nU.cell 0
        have u1 := nU.cell 1
        have u2 := nU.cell 2
        simp only [List.getElem?_toArray, List.getElem?_cons_succ, List.getElem?_cons_zero] at u0 u1 u2
        have NU := Lib.hid nU
        clear hU hbU nU hBq q0 q1 q2 m1
        go_wp2_with (first | (at_builtin; refine Lib.wpList_append_own_string _ rfl _ _ 47 9 rfl w.heap.size 5 i0 Try.underlying47 Try.underlying9 hi hz0 hz1 hz2 _ _ _ rfl r2 _ rfl (by have := HK.out.2.2.2.2.2; unfold maxLen; omega) (by have := HK.out.2.2.2.2.2; omega) (Nat.le_trans hBu g2.size) ?_; intro v3 w3 r3 g3 hz9; clear hz9; have n3 := n2.kept g3 (n2.not_row (by decide) r2); have y0 := n3.cell 0; have y1 := n3.cell 1; have y2 := n3.cell 2; simp only [List.getElem?_toArray, List.getElem?_cons_succ, List.getElem?_cons_zero] at y0 y1 y2) | (at_builtin; refine Lib.wpList_append_own_string _ rfl _ _ 47 9 rfl w.heap.size 5 i0 Try.underlying47 Try.underlying9 hi hz0 hz1 hz2 _ _ _ rfl rU _ rfl (by have := HK.out.2.2.2.2.2; unfold maxLen; omega) (by have := HK.out.2.2.2.2.2; omega) hBu ?_; intro v2 w2 r2 g2 hz9; clear hz9; have n2 := NU.out.kept g2 (Blk.not_row NU.out (by decide) rU); have z0 := n2.cell 0; have z1 := n2.cell 1; have z2 := n2.cell 2; simp only [List.getElem?_toArray, List.getElem?_cons_succ, List.getElem?_cons_zero] at z0 z1 z2))
        have HG := Lib.hid (And.intro r3 (And.intro g2 g3))
        clear r3 g2 g3
        go_simp
        go_roundw
        case rel =>
          have hst := HK.out.1
          rw [if_pos HE.out] at hst
          refine ⟨k + 1, by go_num, E, rfl, out ++ s.extract at' K ++ p, hst, ?_, (HU.out.1.grown HG.out.2.1 HU.out.1.size (fun r e => (rU.lt r e).1)).grown HG.out.2.2 (Nat.le_trans HU.out.1.size HG.out.2.1.size) (fun r e => (r2.lt r e).1)⟩
          rw [ByteArray.size_append, ByteArray.size_append, strCells_app, strCells_app]
          exact HG.out.1
        case measure => simp [intOf] <;> omega
      · rw [decide_eq_false heq] at hbe
        rw [if_neg heq] at hst
        have HE := Lib.hid hst
        clear hown hc hst n hP hx hA hK hD hE s1 s2 s3 s4 hex heq hEe hok
        go_wp2
        go_quiet (fail)
        generalize hU : World.drewN _ _ = U
        have hbU := HK.out.2.2.2.2.1.trans ((hU ▸ below_drewN _ _ : Below (wr.alloc (.cells #[.int .i64 kn, .string d, .string p] 36)).heap.size (wr.alloc (.cells #[.int .i64 kn, .string d, .string p] 36)) U).mono (by simp))
        have HU := Lib.hid (HK.out.2.2.1.trans (hbU.mono HK.out.2.2.1.size))
        clear hU hbU
        go_wp2
        refine bodyPost_ret (results_tmp2 rfl _ _ _) rfl ?_
        exact ⟨.inl ⟨HE.out, rfl⟩, HU.out⟩
    · obtain rfl : k = l.length := by omega
      have hend : runA (atL l) (bL s) = some (bL out, []) := by
        have h1 := hP.rn
        have h2 := hP.fr
        rw [List.drop_length] at h1 h2
        rw [h1]
        have h3 : (bL s).drop at' = [] := List.length_eq_zero_iff.1 (by rw [List.length_drop, bL_len]; simp only [atL, List.flatMap_nil, inA] at h2; omega)
        rw [h3]
        simp [atL, runA]
      have hconv := conv_own rfl hown
      have HX := Lib.hid (And.intro hX hend)
      clear hX hend hP hown
      go_wp2
      refine bodyPost_ret (results_tmp2 rfl _ _ _) rfl ?_
      exact ⟨.inr ⟨out, HX.out.2, rfl⟩, HX.out.1⟩
end Go.Proofs.Ytepbplmggladfaa
