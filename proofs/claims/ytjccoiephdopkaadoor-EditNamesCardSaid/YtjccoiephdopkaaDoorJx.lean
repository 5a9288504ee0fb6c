/- Stage 27: the maker's end; plain. -/
import Derived.Test.YtjccoiephdopkaaDoorJw
import Derived.Test.YtjccoiephdopkaaDoorHd
namespace Go.Proofs.YtjccoiephdopkaaDoor
set_option linter.unusedVariables false
set_option linter.unusedSimpArgs false
open Go Go.RowKit Go.Shelf
set_option maxRecDepth 100000

def PlainR (l : List Sp) (w : World) (e : Ending) (w' : World) : Prop :=
  ∃ v, e = .returned v ∧ w'.ownsRow w.heap.size 39 3 v (plainM l).length ((plainM l).flatMap encS) ∧ Below w.heap.size w w'
theorem gap_len (m : Mk) : (gapM m).out.length ≤ m.out.length + 2 := by
  unfold gapM
  simp only [List.length_append]
  split <;> split <;> simp
theorem row_len (m : Mk) : (rowM m).out.length ≤ m.out.length + 1 := by
  unfold rowM
  simp only [List.length_append]
  split <;> simp
theorem keep_bd (m : Mk) (n : Nat) : (keepM n m).out.length ≤ m.out.length + 2 ∧ (keepM n m).kept ≤ m.kept + n ∧ (keepM n m).put.size ≤ m.put.size ∧ (keepM n m).drop.size ≤ m.drop.size := by
  have h := gap_len m
  unfold keepM
  split
  · exact ⟨h, Nat.le_refl _, Nat.zero_le _, Nat.zero_le _⟩
  · exact ⟨by simp, Nat.le_refl _, Nat.le_refl _, Nat.le_refl _⟩
theorem puts_bd (m : Mk) (s : ByteArray) : (putsM s m).out.length ≤ m.out.length + 1 ∧ (putsM s m).kept ≤ m.kept ∧ (putsM s m).put.size ≤ m.put.size + s.size ∧ (putsM s m).drop.size ≤ m.drop.size := by
  have h := row_len m
  unfold putsM
  split
  · exact ⟨h, Nat.zero_le _, by simp [rowM], Nat.le_refl _⟩
  · exact ⟨by simp, Nat.le_refl _, by simp, Nat.le_refl _⟩
theorem drops_bd (m : Mk) (s : ByteArray) : (dropsM s m).out.length ≤ m.out.length + 1 ∧ (dropsM s m).kept ≤ m.kept ∧ (dropsM s m).put.size ≤ m.put.size ∧ (dropsM s m).drop.size ≤ m.drop.size + s.size := by
  have h := row_len m
  unfold dropsM
  split
  · exact ⟨h, Nat.zero_le _, Nat.le_refl _, by simp [rowM]⟩
  · exact ⟨by simp, Nat.le_refl _, Nat.le_refl _, by simp⟩
theorem kind_one {x : Sp} (h : kindN x ≠ 0) : 1 ≤ x.k.toNat + x.d.size + x.p.size := by
  unfold kindN at h
  split at h
  · omega
  · split at h
    · omega
    · split at h
      · omega
      · exact absurd rfl h
theorem end_any {W : World} {B b : Nat} {vo vp vd : Value} {m : Mk} (h : MkB W B b vo vp vd m) (hl : m.out.length ≤ 100000000) (hp6 : m.put.size ≤ 1000000) (hd6 : m.drop.size ≤ 1000000) :
    Calls Tryd.prog 51 #[.pointer (some ⟨B, 0, none⟩)] W fun e W' => ∃ v, e = .returned v ∧ MkB W' B b v (.slice none 0 0) (.slice none 0 0) (rowM (gapM m)) ∧ KpM B (vo, vp, vd) (v, .slice none 0 0, .slice none 0 0) W W' := by
  have cG := gap_any h (by omega) hp6 hd6
  have hgl := gap_len m
  have cR := fun X vo' (hX : MkB X B b vo' (.slice none 0 0) (.slice none 0 0) (gapM m)) => row_any hX (by omega)
  clear h
  go_enter Tryd.func51, Tryd.ntmps51
  go_wp2_with (fail)
  refine cG.mono ?_
  rintro e V ⟨rfl, vo', hV, hKV⟩
  have HV := Lib.hid (And.intro hV hKV)
  clear hV hKV cG
  go_wp2_with (fail)
  refine (cR _ _ HV.out.1).mono ?_
  rintro e U ⟨rfl, vo2, hU, hKU⟩
  obtain ⟨c0, c1, c2, c3⟩ := hU.cells
  have HU := Lib.hid (And.intro hU hKU)
  clear hU hKU cR
  go_wp2
  go_ret
  exact ⟨_, rfl, HU.out.1, HV.out.2.trans HU.out.2⟩
set_option maxHeartbeats 4000000 in
theorem plain_any (l : List Sp) (o : Option Addr) (c F T : Nat) (hn : l.length ≤ 9223372036854775807) (hok : sizeG l 0 0 = some (F, T)) (w : World) (hr : RowAt w encS 3 o l) :
    Calls Tryd.prog 53 #[.slice o l.length c] w (PlainR l w) := by
  have hM0 : MkB (w.alloc (.cells #[.slice none 0 0, .int .i64 0, .slice none 0 0, .slice none 0 0] 96)) w.heap.size (w.heap.size + 1) (.slice none 0 0) (.slice none 0 0) (.slice none 0 0) ⟨[], 0, .empty, .empty⟩ :=
    ⟨Blk.new w _ _, World.ownsRow_nil _ _ _ _, World.ownsRow_nil _ _ _ _, World.ownsRow_nil _ _ _ _, .inl rfl, by omega, by simp⟩
  have hB0 := (Below.refl w.heap.size w).alloc (Nat.le_refl _) (.cells #[.slice none 0 0, .int .i64 0, .slice none 0 0, .slice none 0 0] 96)
  have H0 := Lib.hid (And.intro hM0 (And.intro hB0 (And.intro hok hr)))
  clear hM0 hB0 hok hr
  go_enter Tryd.func53, Tryd.ntmps53
  go_wp2
  go_loopw [8] (fun i X => ∃ (k f t : Nat) (vo vp vd : Value) (m : Mk), i = .int .i64 k ∧ k ≤ l.length ∧ (l.take k).foldl stepM ⟨[], 0, .empty, .empty⟩ = m ∧ MkB X w.heap.size (w.heap.size + 1) vo vp vd m ∧ Below w.heap.size w X ∧ sizeG (l.drop k) f t = some (F, T) ∧ f ≤ 65536 ∧ t ≤ 65536 ∧ m.kept ≤ f ∧ m.drop.size ≤ f ∧ m.put.size ≤ t ∧ k ≤ f + t ∧ m.out.length ≤ 4 * k) (fun i _ => l.length - (intOf i).toNat)
  case atStart => exact ⟨0, 0, 0, _, _, _, _, rfl, by omega, rfl, H0.out.1, H0.out.2.1, H0.out.2.2.1, by omega, by omega, Nat.le_refl _, Nat.le_refl _, Nat.le_refl _, by omega, Nat.le_refl _⟩
  case round =>
    obtain ⟨k, f, t, vo, vp, vd, m, rfl, hk, hm, hMB, hB, hsz, hf, ht, b1, b2, b3, b4, b5⟩ := hrel
    by_cases hlt : k < l.length
    · obtain ⟨x, hx⟩ : ∃ x, l[k]? = some x := ⟨_, List.getElem?_eq_getElem hlt⟩
      obtain ⟨g, off, rfl, hc⟩ := H0.out.2.2.2.below encS_len (by decide) hB k x hx
      obtain ⟨q0, q1, q2⟩ := get3 (l := l) hc
      have hd : l.drop k = x :: l.drop (k + 1) := (List.drop_eq_getElem_cons hlt).trans (by rw [(List.getElem?_eq_some_iff.1 hx).2])
      have hstep : (l.take (k + 1)).foldl stepM ⟨[], 0, .empty, .empty⟩ = stepM m x := by rw [List.take_add_one, hx, List.foldl_append, hm]; rfl
      rw [hd, sizeG] at hsz
      by_cases hk0 : kindN x = 0 ∨ 65536 < x.k
      · rw [if_pos hk0] at hsz; cases hsz
      · rw [if_neg hk0] at hsz
        by_cases hs6 : 65536 < f + x.k.toNat + x.d.size ∨ 65536 < t + x.k.toNat + x.p.size
        · rw [if_pos hs6] at hsz; cases hsz
        · rw [if_neg hs6] at hsz
          have hkp := kind_pos (x := x) (fun e => hk0 (.inl e))
          have hk1 := kind_one (x := x) (fun e => hk0 (.inl e))
          obtain ⟨kk, d, p⟩ := x
          simp only at hkp hk1 hs6 hk0 hsz q0 q1 q2
          obtain ⟨kn, rfl⟩ : ∃ kn : Nat, kk = kn := ⟨kk.toNat, by omega⟩
          rw [Int.toNat_natCast] at hs6 hsz hk1
          have hst : stepM m ⟨kn, d, p⟩ = dropsM d (putsM p (keepM kn m)) := by unfold stepM; rw [Int.toNat_natCast]
          rw [hst] at hstep
          have e1 := keep_bd m kn
          have e2 := puts_bd (keepM kn m) p
          have e3 := drops_bd (putsM p (keepM kn m)) d
          have n := Blk.new wr #[.int .i64 kn, .string d, .string p] 39
          have hb := (Below.refl wr.heap.size wr).alloc (Nat.le_refl _) (.cells #[.int .i64 kn, .string d, .string p] 39)
          have hMB1 := hMB.below hb
          have hne : N3 (vo, vp, vd) wr.heap.size := hMB.n3_new (Nat.le_refl _)
          have hqB : wr.heap.size ≠ w.heap.size := by have := hMB1.bw; have := hMB.bb; have := hMB.bw; omega
          have hqs : wr.heap.size < (wr.alloc (.cells #[.int .i64 kn, .string d, .string p] 39)).heap.size := by simp
          have j5 : IntKind.i64.wrap ((k : Int) + 1) = ((k + 1 : Nat) : Int) := by rw [IntWalk.i64_in _ (by omega)]; omega
          have hkl : (k : Int) < (l.length : Int) := by omega
          have cK := keep_any hMB1 kn (by omega) (by omega) (by omega) (by omega) (by omega)
          obtain ⟨q, hq⟩ : ∃ q, wr.heap.size = q := ⟨_, rfl⟩
          have z0 := n.cell 0
          simp only [List.getElem?_toArray, List.getElem?_cons_zero] at z0
          rw [hq] at n hne z0 hqB hqs
          have HQB := Lib.hid (And.intro hqB hqs)
          clear hqB hqs
          have HX := Lib.hid (And.intro n (And.intro hne (And.intro hstep (And.intro hsz (And.intro (hB.trans (hb.mono hB.size)) hMB1)))))
          have HK := Lib.hid (And.intro e1 (And.intro e2 (And.intro e3 (And.intro hs6 (And.intro hk1 (And.intro b1 (And.intro b2 (And.intro b3 (And.intro b4 b5)))))))))
          have HQ := Lib.hid hq
          clear hsz hstep hst hm hMB hB hb n hne e1 e2 e3 hs6 hk1 b1 b2 b3 b4 b5 hd hx hc hMB1 hq hk0 hkp z0
          go_wp2_with (fail)
          refine cK.mono ?_
          rintro e V1 ⟨rfl, vo1, vp1, vd1, hM1, hK1⟩
          rw [HQ.out]
          have nb1 := hK1.blk q HQB.out.2 HQB.out.1 HX.out.2.1
          have n1 : Blk V1 q #[.int .i64 kn, .string d, .string p] 39 := nb1.1.trans HX.out.1
          have y2 : V1.cell? ⟨q, 2, none⟩ = some (.string p) := n1.cell 2
          have cP := puts_any hM1 p (by have := HK.out; omega) (by have := HK.out; omega) (by have := HK.out; omega)
          have H1 := Lib.hid (And.intro hM1 (And.intro hK1 (And.intro n1 nb1.2)))
          clear hM1 hK1 n1 nb1 cK
          go_wp2_with (fail)
          refine cP.mono ?_
          rintro e V2 ⟨rfl, vo2, vp2, vd2, hM2, hK2⟩
          have nb2 := hK2.blk q (Nat.lt_of_lt_of_le HQB.out.2 H1.out.2.1.size) HQB.out.1 H1.out.2.2.2
          have n2 : Blk V2 q #[.int .i64 kn, .string d, .string p] 39 := nb2.1.trans H1.out.2.2.1
          have y1 : V2.cell? ⟨q, 1, none⟩ = some (.string d) := n2.cell 1
          have cD := drops_any hM2 d (by have := HK.out; omega) (by have := HK.out; omega) (by have := HK.out; omega)
          have H2 := Lib.hid (And.intro hM2 hK2)
          clear hM2 hK2 n2 nb2 cP y2
          go_wp2_with (fail)
          refine cD.mono ?_
          rintro e V3 ⟨rfl, vo3, vp3, vd3, hM3, hK3⟩
          have hK := (H1.out.2.1.trans H2.out.2).trans hK3
          have hBl : Below w.heap.size w V3 := hK.below HX.out.2.2.2.2.2 (Nat.le_refl _) HX.out.2.2.2.2.1
          have H3 := Lib.hid (And.intro hM3 hBl)
          clear hM3 hK3 hK hBl cD y1
          go_wp2
          go_roundw
          case rel =>
            have h := HK.out
            exact ⟨k + 1, f + kn + d.size, t + kn + p.size, vo3, vp3, vd3, _, by go_num, by omega, HX.out.2.2.1, H3.out.1, H3.out.2, HX.out.2.2.2.1, by omega, by omega, by omega, by omega, by omega, by omega, by omega⟩
          case measure => simp [intOf] <;> omega
    · obtain rfl : k = l.length := by omega
      rw [List.take_length] at hm
      have cE := end_any hMB (by omega) (by omega) (by omega)
      have HX := Lib.hid (And.intro hm (And.intro hB hMB))
      clear hm hB hMB hsz
      go_wp2_with (fail)
      refine cE.mono ?_
      rintro e V ⟨v, rfl, hrow0, hK⟩
      have hrow : V.ownsRow (w.heap.size + 1) 39 3 v (endM m).length ((endM m).flatMap encS) := hrow0.ro
      clear hrow0
      have hBl : Below w.heap.size w V := hK.below HX.out.2.2 (Nat.le_refl _) HX.out.2.1
      have H3 := Lib.hid (And.intro hrow hBl)
      clear hrow hK hBl cE
      go_wp2
      go_ret
      refine ⟨v, rfl, ?_, H3.out.2⟩
      have h := H3.out.1
      rw [← HX.out.1] at h
      exact own_base h (by omega)
end Go.Proofs.YtjccoiephdopkaaDoor
