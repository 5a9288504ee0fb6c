/- Stage 16: Read, the program's. -/
import Derived.Test.YtdcmkiggnmajgaaV2
namespace Go.Proofs.Ytdcmkiggnmajgaa
set_option linter.unusedVariables false
set_option linter.unusedSimpArgs false
open Go Go.RowKit Go.Shelf
set_option maxRecDepth 100000

/-- The world at the end: both results are laid. -/
def endW (P : World) (b : Nat) (vl vs x y : Value) : World := (((P.setCell ⟨b, 0, none⟩ vl).setCell ⟨b, 1, none⟩ vs).setCell ⟨b + 1, 0, none⟩ x).setCell ⟨b + 1, 1, none⟩ y
theorem err_g {st : St} {c : Nat} (hg : st.g = true) (h : ¬ (49 ≤ c ∧ c ≤ 57)) : errR st c = 160 := by unfold errR; rw [if_pos hg, if_neg h]
theorem ok_g {st : St} {c : Nat} (hg : st.g = true) (h : 49 ≤ c ∧ c ≤ 57) : errR st c = 0 := by unfold errR; rw [if_pos hg, if_pos h]
theorem err_n {st : St} {c : Nat} (hg : st.g = false) (h : ¬ (c = 32 ∧ st.a = false)) (hl : isLet c = false) : errR st c = 160 := by unfold errR; rw [if_neg (by rw [hg]; decide), if_neg h, hl]; rfl
theorem ok_sp {st : St} {c : Nat} (hg : st.g = false) (h : c = 32 ∧ st.a = false) : errR st c = 0 := by unfold errR; rw [if_neg (by rw [hg]; decide), if_pos h]
theorem let_sp {c : Nat} (hl : isLet c = true) : c ≠ 32 := by rintro rfl; cases hl
theorem err_512 {st : St} {c : Nat} (hg : st.g = false) (hl : isLet c = true) (h : st.L.length = 512) : errR st c = 3 := by unfold errR; rw [if_neg (by rw [hg]; decide), if_neg (fun h => let_sp hl h.1), hl, if_pos rfl, if_pos h]
theorem ok_let {st : St} {c : Nat} (hg : st.g = false) (hl : isLet c = true) (h : st.L.length ≠ 512) : errR st c = 0 := by unfold errR; rw [if_neg (by rw [hg]; decide), if_neg (fun h => let_sp hl h.1), hl, if_pos rfl, if_neg h]
theorem err_big (st : St) {c : Nat} (h : 128 ≤ c) : errR st c = 160 := by
  cases hg : st.g with
  | true => exact err_g hg (by omega)
  | false => exact err_n hg (by omega) (by unfold isLet; simp; omega)
/-- The variables of Read but the scheme. -/
def RdB (s : ByteArray) (w : World) (pos : Nat) (W : World) : Prop :=
  W.heap[w.heap.size + 3]? = some (.stringIter s pos) ∧ Below w.heap.size w W ∧ Blk W w.heap.size #[.slice none 0 0, .slice none 0 0] 25 ∧ Blk W (w.heap.size + 1) #[.int .i64 0, .int .i64 0] 32
theorem RdB.kept {s : ByteArray} {w W W' : World} {pos : Nat} {row : Option Nat} (h : RdB s w pos W) (hg : W.grownBy W' row) (hr : ∀ r, row = some r → r = w.heap.size + 2 ∨ w.heap.size + 4 ≤ r) : RdB s w pos W' := by
  have hz := h.2.2.2.lt
  have hi : w.heap.size + 3 < W.heap.size := (Array.getElem?_eq_some_iff.1 h.1).1
  exact ⟨(hg.block _ hi (fun e => by have := hr _ e.symm; omega)).trans h.1, h.2.1.grown hg (by omega) (fun r e => by have := hr r e; omega), h.2.2.1.kept hg (fun e => by have := hr _ e.symm; omega), h.2.2.2.kept hg (fun e => by have := hr _ e.symm; omega)⟩
theorem endW_all {s : ByteArray} {w P : World} {pos : Nat} (h : RdB s w pos P) (vl vs x y : Value) :
    (endW P w.heap.size vl vs x y).cell? ⟨w.heap.size, 0, none⟩ = some vl ∧ (endW P w.heap.size vl vs x y).cell? ⟨w.heap.size, 1, none⟩ = some vs ∧ (endW P w.heap.size vl vs x y).cell? ⟨w.heap.size + 1, 0, none⟩ = some x ∧ (endW P w.heap.size vl vs x y).cell? ⟨w.heap.size + 1, 1, none⟩ = some y ∧ Below w.heap.size w (endW P w.heap.size vl vs x y) := by
  have h1 := (((h.2.2.1.set 0 vl).set 1 vs).other (B' := w.heap.size + 1) (by omega) 0 x).other (B' := w.heap.size + 1) (by omega) 1 y
  have h2 := (((h.2.2.2.other (B' := w.heap.size) (by omega) 0 vl).other (B' := w.heap.size) (by omega) 1 vs).set 0 x).set 1 y
  exact ⟨h1.cell 0, h1.cell 1, h2.cell 0, h2.cell 1, (((h.2.1.setCell (p := ⟨w.heap.size, 0, none⟩) (Nat.le_refl _) vl).setCell (p := ⟨w.heap.size, 1, none⟩) (Nat.le_refl _) vs).setCell (p := ⟨w.heap.size + 1, 0, none⟩) (Nat.le_succ _) x).setCell (p := ⟨w.heap.size + 1, 1, none⟩) (Nat.le_succ _) y⟩
theorem endW_grown (P : World) (b : Nat) (vl vs x y : Value) : ∀ (base : Nat) (e : TypeId) (sz n : Nat) (v : Value) (xs : List Value), P.ownsRow base e sz v n xs → b + 2 ≤ base → (endW P b vl vs x y).ownsRow b e sz v n xs :=
  fun _ _ _ _ _ _ h hb => own_base (own_low (own_low (own_low (own_low h (by omega) 0 vl) (by omega) 1 vs) (by omega) 0 x) (by omega) 1 y) (by omega)
def RdM (s : ByteArray) (w : World) (st : St) (pos : Nat) (W : World) : Prop := RdB s w pos W ∧ ∃ vl vs, SchB W (w.heap.size + 2) (w.heap.size + 4) vl vs st.L st.S
def RdI (R : Sc × Int × Int) (s : ByteArray) (w : World) (g a : Value) (W : World) : Prop := ∃ st pos, g = .bool st.g ∧ a = .bool st.a ∧ pos ≤ s.size ∧ StOK st ∧ runR s (s.size - pos) pos st = R ∧ RdM s w st pos W
def ReadPost (R : Sc × Int × Int) (w : World) (e : Ending) (w' : World) : Prop := ∃ vl vs, e = .returned (.tuple #[.agg #[vl, vs], .agg #[.int .i64 R.2.1, .int .i64 R.2.2]]) ∧
  w'.ownsRow w.heap.size 79 2 vl R.1.L.length (R.1.L.flatMap encR) ∧ w'.ownsRow w.heap.size 3 1 vs R.1.S.length (R.1.S.flatMap encI) ∧ Below w.heap.size w w'
theorem ReadPost.bad {R : Sc × Int × Int} {w W : World} {e n : Int} (h : R = (⟨[], []⟩, e, n)) (hb : Below w.heap.size w W) : ReadPost R w (.returned (.tuple #[.agg #[.slice none 0 0, .slice none 0 0], .agg #[.int .i64 e, .int .i64 n]])) W := by
  subst h
  exact ⟨_, _, rfl, World.ownsRow_nil _ _ _ _, World.ownsRow_nil _ _ _ _, hb⟩

theorem rd_next {R : Sc × Int × Int} {s : ByteArray} {w wr W : World} {st st' : St} {r pos W1 : Nat} (hrun : (∀ e, errR st r = e → e ≠ 0 → R = (⟨[], []⟩, e, (pos : Int))) ∧ (errR st r = 0 → runR s (s.size - (pos + W1)) (pos + W1) (nextR st r) = R)) (he : errR st r = 0) (hok : StOK st)
    (hst : nextR st r = st') (hm : s.size - (pos + W1) < s.size - wr.iterPos (w.heap.size + 3)) (hfit : pos + W1 ≤ s.size) (h : RdM s w st' (pos + W1) W) :
    RdI R s w (.bool st'.g) (.bool st'.a) W ∧ s.size - W.iterPos (w.heap.size + 3) < s.size - wr.iterPos (w.heap.size + 3) := by
  subst hst
  refine ⟨⟨_, pos + W1, rfl, rfl, hfit, hok.next he, hrun.2 he, h⟩, ?_⟩
  simp only [World.iterPos, h.1.1] at hm ⊢
  exact hm

set_option maxHeartbeats 8000000 in
theorem read_any (s : ByteArray) (hs : s.size ≤ 9223372036854775807) (w : World) :
    Calls Try.prog 17 #[.string s] w (ReadPost (readR s) w) := by
  obtain ⟨i0, hi, hz0, hz1, hz2⟩ := info_parts infoInt
  obtain ⟨j0, hj, hy0, hy1, hy2⟩ := info_parts infoRhyme
  by_cases hlong : 65536 < s.size
  · have hR : readR s = (⟨[], []⟩, 3, 65536) := by unfold readR; rw [if_pos hlong]
    obtain ⟨R, hRR⟩ : ∃ R, readR s = R := ⟨_, rfl⟩
    rw [hRR] at hR ⊢
    have HR := Lib.hid hR
    have d1 : decide ((65536 : Int) < (s.size : Int)) = true := decide_eq_true (by omega)
    have d2 : decide (65536 < s.size) = true := decide_eq_true hlong
    clear hR hRR
    go_enter Try.func17, Try.ntmps17
    go_wp2
    exact bodyPost_ret (v := .tuple #[.agg #[.slice none 0 0, .slice none 0 0], .agg #[.int .i64 3, .int .i64 65536]]) (by simp [results, Try.f17, go_sem]) rfl (ReadPost.bad HR.out (by
      exact ((Below.refl _ w).alloc (Nat.le_refl _) (.cells #[.slice none 0 0, .slice none 0 0] 25)).alloc (by simp) (.cells #[.int .i64 3, .int .i64 65536] 32)))
  have d1 : decide ((65536 : Int) < (s.size : Int)) = false := decide_eq_false (by omega)
  have d2 : decide (65536 < s.size) = false := decide_eq_false hlong
  have hR : readR s = runR s s.size 0 ⟨[], [], false, true⟩ := by unfold readR; rw [if_neg hlong]
  obtain ⟨R, hRR⟩ : ∃ R, readR s = R := ⟨_, rfl⟩
  rw [hRR] at hR ⊢
  have HR := Lib.hid hR
  clear hR hRR
  go_enter Try.func17, Try.ntmps17
  go_wp2
  go_loopw [5, 6] (RdI R s w) (fun _ _ W => s.size - W.iterPos (w.heap.size + 3))
  case atStart =>
    have a0 := Blk.new w #[.slice none 0 0, .slice none 0 0] 25
    have a1 := Blk.new (w.alloc (.cells #[.slice none 0 0, .slice none 0 0] 25)) #[.int .i64 0, .int .i64 0] 32
    have a2 := Blk.new ((w.alloc (.cells #[.slice none 0 0, .slice none 0 0] 25)).alloc (.cells #[.int .i64 0, .int .i64 0] 32)) #[.slice none 0 0, .slice none 0 0] 25
    simp only [World.size_alloc] at a1 a2
    have hB := (((Below.refl _ w).alloc (Nat.le_refl _) (.cells #[.slice none 0 0, .slice none 0 0] 25)).alloc (by simp) (.cells #[.int .i64 0, .int .i64 0] 32)).alloc (by simp; omega) (.cells #[.slice none 0 0, .slice none 0 0] 25)
    refine ⟨⟨[], [], false, true⟩, 0, rfl, rfl, by omega, StOK.start, HR.out.symm, ⟨?_, hB.alloc (by simp; omega) _, ((a0.alloc _).alloc _).alloc _, (a1.alloc _).alloc _⟩, .slice none 0 0, .slice none 0 0, a2.alloc _, World.ownsRow_nil _ _ _ _, World.ownsRow_nil _ _ _ _⟩
    have := World.iter_heap (((w.alloc (.cells #[.slice none 0 0, .slice none 0 0] 25)).alloc (.cells #[.int .i64 0, .int .i64 0] 32)).alloc (.cells #[.slice none 0 0, .slice none 0 0] 25)) s 0
    simpa only [World.size_alloc, Nat.add_assoc, Nat.reduceAdd] using this
  case round =>
    obtain ⟨st, pos, rfl, rfl, hps, hok, hrun, hM⟩ := hrel
    by_cases hlt : pos < s.size
    · have hnx : ∀ ty, (Instr.next (.pointer (some ⟨w.heap.size + 3, 0, none⟩)) true ty).run Try.prog wr = _ := fun ty => Lib.run_next_any_at wr (w.heap.size + 3) s pos ty hM.1.1 hlt
      have hdw := dec_wide s pos hlt
      have hsm := rn_small s pos
      have hgr := rn_great s pos
      obtain ⟨dd, hdd⟩ : ∃ dd, Utf8.decode s pos = dd := ⟨_, rfl⟩
      rw [hdd] at hnx hdw hsm hgr
      obtain ⟨r, W1⟩ := dd
      simp only at hnx hdw hsm hgr
      have hit := hM.1.1
      have hM1 : RdM s w st (pos + W1) (wr.iterAt (w.heap.size + 3) s (pos + W1)) := by
        obtain ⟨vl, vs, hS⟩ := hM.2
        have hz := hS.1.lt
        have hzi : w.heap.size + 3 < wr.heap.size := (Array.getElem?_eq_some_iff.1 hit).1
        have hg := grown_iterAt wr (w.heap.size + 3) s (pos + W1)
        refine ⟨⟨Lib.iterAt_heap wr (w.heap.size + 3) s pos (pos + W1) hit, Lib.below_iterAt hM.1.2.1 (by omega) s _, hM.1.2.2.1.kept hg (by simp), hM.1.2.2.2.kept hg (by simp)⟩, vl, vs, hS.kept hg (fun r e => by cases e; omega)⟩
      have hmeas : s.size - (pos + W1) < s.size - wr.iterPos (w.heap.size + 3) := by
        simp only [World.iterPos, hit]; omega
      obtain ⟨P, hP⟩ : ∃ P, wr.iterAt (w.heap.size + 3) s (pos + W1) = P := ⟨_, rfl⟩
      rw [hP] at hnx hM1
      have HM := Lib.hid hmeas
      have hrn : (∀ e, errR st r = e → e ≠ 0 → R = (⟨[], []⟩, e, (pos : Int))) ∧ (errR st r = 0 → runR s (s.size - (pos + W1)) (pos + W1) (nextR st r) = R) := by
        by_cases hc : bt s pos < 128
        · have hrc := hsm hc
          simp only [Prod.mk.injEq] at hrc
          obtain ⟨rfl, rfl⟩ := hrc
          exact ⟨fun e he h0 => by rw [← hrun, run_no hlt (by rw [he]; exact h0), he], fun he => by rw [← hrun, run_ok hlt he]⟩
        · have h1 := err_big st (show 128 ≤ bt s pos by omega)
          have h2 := err_big st (hgr (by omega)).1
          refine ⟨fun e he h0 => ?_, fun h => by rw [h2] at h; cases h⟩
          rw [h2] at he
          subst he
          rw [← hrun, run_no hlt (by rw [h1]; decide), h1]
      have hrb : r ≤ 1114111 := by
        by_cases hc : bt s pos < 128
        · have hrc := hsm hc
          simp only [Prod.mk.injEq] at hrc
          omega
        · exact (hgr (by omega)).2
      have HRUN := Lib.hid hrn
      obtain ⟨hM4, vl, vs, hS⟩ := hM1
      obtain ⟨ol, cl, rfl, hol⟩ := own_slice hS.2.1
      obtain ⟨os, cs, rfl, hos⟩ := own_slice hS.2.2
      have x0 := hS.1.cell 0
      have x1 := hS.1.cell 1
      have xf0 := hS.1.frozen 0
      have xf1 := hS.1.frozen 1
      have y0 := hM4.2.2.1.cell 0
      have y1 := hM4.2.2.1.cell 1
      have yf0 := hM4.2.2.1.frozen 0
      have yf1 := hM4.2.2.1.frozen 1
      have z0 := hM4.2.2.2.cell 0
      have z1 := hM4.2.2.2.cell 1
      have zf0 := hM4.2.2.2.frozen 0
      have zf1 := hM4.2.2.2.frozen 1
      simp only [List.getElem?_toArray, List.getElem?_cons_succ, List.getElem?_cons_zero] at x0 x1 y0 y1 z0 z1
      have HM1 := Lib.hid (And.intro hM4 (And.intro hS hok))
      have HO := Lib.hid (And.intro hol hos)
      clear hP hmeas hM hit hdd hrn hrun hM4 hS hok hol hos hsm hgr
      obtain ⟨L, S, g, a⟩ := st
      simp only at x0 x1 ⊢
      -- CASES
      cases g with
      | true =>
        by_cases c1 : 49 ≤ r
        · have d1 : decide ((49 : Int) ≤ (r : Int)) = true := decide_eq_true (by omega)
          by_cases c2 : r ≤ 57
          · have d2 : decide ((r : Int) ≤ 57) = true := decide_eq_true (by omega)
            have hE := ok_g (st := ⟨L, S, true, a⟩) rfl ⟨c1, c2⟩
            obtain ⟨hM4, hS, hok⟩ := HM1.out
            have hnx := fun W h => rd_next HRUN.out hE hok (st' := ⟨setLast L ((r : Int) - 48), S, false, a⟩) rfl HM.out hdw.2 (W := W) h
            have hne := hok.2.1 rfl
            obtain ⟨n, hn⟩ : ∃ n, L.length = n := ⟨_, rfl⟩
            rw [hn] at x0
            have h0 : 0 < L.length := List.length_pos_iff.2 hne
            obtain ⟨m, rfl⟩ : ∃ m, n = m + 1 := ⟨n - 1, by omega⟩
            obtain ⟨gl, rfl⟩ := HO.out.1 (show 0 < L.length by omega)
            have hgl := hS.2.1.lt gl rfl
            have hm5 : m + 1 ≤ 512 := by rw [← hn]; exact hok.1
            have hm2 : m * 2 + 1 < L.length * 2 := by omega
            obtain ⟨u, hu⟩ : ∃ u, P.cell? ⟨gl, m * 2 + 1, none⟩ = some u := ⟨_, (hS.2.1.cellAt (m * 2 + 1) hm2).trans (List.getElem?_eq_getElem (by rw [fl_len encR_len]; exact hm2))⟩
            have huf := own_freeK (hn ▸ hS.2.1) (m * 2 + 1)
            have hend : RdM s w ⟨setLast L ((r : Int) - 48), S, false, a⟩ (pos + W1) (P.setCell ⟨gl, m * 2 + 1, none⟩ (.int .i64 ((r : Int) - 48))) := by
              refine ⟨hM4.kept (grownBy_setCell P gl _ _) (fun r e => by cases e; omega), _, _, hS.setL (by omega) hm2 (setLast_len _ _) ?_⟩
              have hmL : m < L.length := by omega
              have h1 : L[m]? = some L[m] := List.getElem?_eq_getElem hmL
              have h2 := fl_set (enc := encR) encR_len h1 (j := 1) (by decide) (y := ⟨L[m].c, (r : Int) - 48⟩) (v := .int .i64 ((r : Int) - 48)) rfl
              rw [h2]
              unfold setLast
              rw [List.getLast?_eq_getElem?, hn, Nat.add_sub_cancel, h1]
              rfl
            have HN := Lib.hid (hnx _ hend)
            have hm6 : m ≤ 511 := by omega
            clear hnx hend hM4 hS hok hE hne h0 hn hm5 hgl HRUN HO hm2
            go_wp2
            refine wp_scope_once fun J hJ => ?_
            have HJ := Lib.hid hJ
            clear hJ
            go_wp2
            go_step3
            show J _ _ _
            refine HJ.out _ _ _ _ rfl ?_
            go_wp2
            rw [Exit.noGoto_exit]
            go_wp2
            go_roundw
            case rel => exact HN.out.1
            case measure => exact HN.out.2
          · have d2 : decide ((r : Int) ≤ 57) = false := decide_eq_false (by omega)
            as_aux_lemma =>
              have HZ := Lib.hid ((HRUN.out.1 160 (err_g rfl (by omega)) (by decide)))
              clear HRUN
              go_wp2
              refine wp_scope_once fun J hJ => ?_
              have HJ := Lib.hid hJ
              clear hJ
              go_wp2
              go_step3
              show J _ _ _
              refine HJ.out _ _ _ _ rfl ?_
              go_wp2
              go_step3
              go_wp2
              obtain ⟨q0, q1, q2, q3, qB⟩ := endW_all HM1.out.1 (.slice none 0 0) (.slice none 0 0) (.int .i64 160) (.int .i64 pos)
              obtain ⟨F, hF⟩ : ∃ F, endW P w.heap.size (.slice none 0 0) (.slice none 0 0) (.int .i64 160) (.int .i64 pos) = F := ⟨_, rfl⟩
              rw [hF] at q0 q1 q2 q3 qB
              rw [show ((((P.setCell ⟨w.heap.size, 0, none⟩ (.slice none 0 0)).setCell ⟨w.heap.size, 1, none⟩ (.slice none 0 0)).setCell ⟨w.heap.size + 1, 0, none⟩ (.int .i64 160)).setCell ⟨w.heap.size + 1, 1, none⟩ (.int .i64 pos)) = F from hF]
              clear hF
              exact bodyPost_ret (v := .tuple #[.agg #[.slice none 0 0, .slice none 0 0], .agg #[.int .i64 160, .int .i64 pos]]) (by simp [results, Try.f17, go_sem, q0, q1, q2, q3]) rfl (ReadPost.bad HZ.out qB)
        · have d1 : decide ((49 : Int) ≤ (r : Int)) = false := decide_eq_false (by omega)
          as_aux_lemma =>
            have HZ := Lib.hid ((HRUN.out.1 160 (err_g rfl (by omega)) (by decide)))
            clear HRUN
            go_wp2
            refine wp_scope_once fun J hJ => ?_
            have HJ := Lib.hid hJ
            clear hJ
            go_wp2
            go_step3
            show J _ _ _
            refine HJ.out _ _ _ _ rfl ?_
            go_wp2
            go_step3
            go_wp2
            obtain ⟨q0, q1, q2, q3, qB⟩ := endW_all HM1.out.1 (.slice none 0 0) (.slice none 0 0) (.int .i64 160) (.int .i64 pos)
            obtain ⟨F, hF⟩ : ∃ F, endW P w.heap.size (.slice none 0 0) (.slice none 0 0) (.int .i64 160) (.int .i64 pos) = F := ⟨_, rfl⟩
            rw [hF] at q0 q1 q2 q3 qB
            rw [show ((((P.setCell ⟨w.heap.size, 0, none⟩ (.slice none 0 0)).setCell ⟨w.heap.size, 1, none⟩ (.slice none 0 0)).setCell ⟨w.heap.size + 1, 0, none⟩ (.int .i64 160)).setCell ⟨w.heap.size + 1, 1, none⟩ (.int .i64 pos)) = F from hF]
            clear hF
            exact bodyPost_ret (v := .tuple #[.agg #[.slice none 0 0, .slice none 0 0], .agg #[.int .i64 160, .int .i64 pos]]) (by simp [results, Try.f17, go_sem, q0, q1, q2, q3]) rfl (ReadPost.bad HZ.out qB)
      | false =>
        by_cases c0 : r = 32 ∧ a = false
        · obtain ⟨c0, rfl⟩ := c0
          have e1 : ((r : Int) == 32) = true := by rw [c0]; rfl
          obtain ⟨hM4, hS, hok⟩ := HM1.out
          have HN := Lib.hid (rd_next HRUN.out (ok_sp (st := ⟨L, S, false, false⟩) rfl ⟨c0, rfl⟩) hok (st' := ⟨L, S, false, true⟩) (by unfold nextR; simp [c0]) HM.out hdw.2 (W := P) ⟨hM4, _, _, hS⟩)
          clear hM4 hS hok HRUN HO c0
          go_wp2
          refine wp_scope_once fun J hJ => ?_
          clear hJ
          go_wp2
          rw [jumpJ_exit]
          go_wp2
          go_roundw
          case rel => exact HN.out.1
          case measure => exact HN.out.2
        by_cases c32 : r = 32
        · have ha : a = true := by cases a; exact absurd ⟨c32, rfl⟩ c0; rfl
          subst ha
          have e1 : ((r : Int) == 32) = true := by rw [c32]; rfl
          have hl : isLet r = false := by rw [c32]; rfl
          have d0 : decide (97 ≤ ((r : Int) : Int)) = false := decide_eq_false (by omega)
          have d1 : decide (65 ≤ ((r : Int) : Int)) = false := decide_eq_false (by omega)
          as_aux_lemma =>
            have HZ := Lib.hid ((HRUN.out.1 160 (err_n rfl c0 hl) (by decide)))
            clear HRUN
            clear c0 hl
            go_wp2
            refine wp_scope_once fun J hJ => ?_
            have HJ := Lib.hid hJ
            clear hJ
            go_wp2
            go_step3
            show J _ _ _
            refine HJ.out _ _ _ _ rfl ?_
            go_wp2
            obtain ⟨q0, q1, q2, q3, qB⟩ := endW_all HM1.out.1 (.slice none 0 0) (.slice none 0 0) (.int .i64 160) (.int .i64 pos)
            obtain ⟨F, hF⟩ : ∃ F, endW P w.heap.size (.slice none 0 0) (.slice none 0 0) (.int .i64 160) (.int .i64 pos) = F := ⟨_, rfl⟩
            rw [hF] at q0 q1 q2 q3 qB
            rw [show ((((P.setCell ⟨w.heap.size, 0, none⟩ (.slice none 0 0)).setCell ⟨w.heap.size, 1, none⟩ (.slice none 0 0)).setCell ⟨w.heap.size + 1, 0, none⟩ (.int .i64 160)).setCell ⟨w.heap.size + 1, 1, none⟩ (.int .i64 pos)) = F from hF]
            clear hF
            exact bodyPost_ret (v := .tuple #[.agg #[.slice none 0 0, .slice none 0 0], .agg #[.int .i64 160, .int .i64 pos]]) (by simp [results, Try.f17, go_sem, q0, q1, q2, q3]) rfl (ReadPost.bad HZ.out qB)
        have e1 : ((r : Int) == 32) = false := by rw [beq_eq_false_iff_ne]; omega
        cases hl : isLet r with
        | false =>
          by_cases c1 : r < 65
          · have d0 : decide (97 ≤ ((r : Int) : Int)) = false := decide_eq_false (by omega)
            have d1 : decide (65 ≤ ((r : Int) : Int)) = false := decide_eq_false (by omega)
            as_aux_lemma =>
              have HZ := Lib.hid ((HRUN.out.1 160 (err_n rfl c0 hl) (by decide)))
              clear HRUN
              clear c0 hl
              go_wp2
              refine wp_scope_once fun J hJ => ?_
              have HJ := Lib.hid hJ
              clear hJ
              go_wp2
              go_step3
              show J _ _ _
              refine HJ.out _ _ _ _ rfl ?_
              go_wp2
              obtain ⟨q0, q1, q2, q3, qB⟩ := endW_all HM1.out.1 (.slice none 0 0) (.slice none 0 0) (.int .i64 160) (.int .i64 pos)
              obtain ⟨F, hF⟩ : ∃ F, endW P w.heap.size (.slice none 0 0) (.slice none 0 0) (.int .i64 160) (.int .i64 pos) = F := ⟨_, rfl⟩
              rw [hF] at q0 q1 q2 q3 qB
              rw [show ((((P.setCell ⟨w.heap.size, 0, none⟩ (.slice none 0 0)).setCell ⟨w.heap.size, 1, none⟩ (.slice none 0 0)).setCell ⟨w.heap.size + 1, 0, none⟩ (.int .i64 160)).setCell ⟨w.heap.size + 1, 1, none⟩ (.int .i64 pos)) = F from hF]
              clear hF
              exact bodyPost_ret (v := .tuple #[.agg #[.slice none 0 0, .slice none 0 0], .agg #[.int .i64 160, .int .i64 pos]]) (by simp [results, Try.f17, go_sem, q0, q1, q2, q3]) rfl (ReadPost.bad HZ.out qB)
          by_cases c2 : 122 < r
          · have d0 : decide (97 ≤ ((r : Int) : Int)) = true := decide_eq_true (by omega)
            have d1 : decide ((r : Int) ≤ 122) = false := decide_eq_false (by omega)
            have d2 : decide (65 ≤ ((r : Int) : Int)) = true := decide_eq_true (by omega)
            have d3 : decide ((r : Int) ≤ 90) = false := decide_eq_false (by omega)
            as_aux_lemma =>
              have HZ := Lib.hid ((HRUN.out.1 160 (err_n rfl c0 hl) (by decide)))
              clear HRUN
              clear c0 hl
              go_wp2
              refine wp_scope_once fun J hJ => ?_
              have HJ := Lib.hid hJ
              clear hJ
              go_wp2
              go_step3
              show J _ _ _
              refine HJ.out _ _ _ _ rfl ?_
              go_wp2
              obtain ⟨q0, q1, q2, q3, qB⟩ := endW_all HM1.out.1 (.slice none 0 0) (.slice none 0 0) (.int .i64 160) (.int .i64 pos)
              obtain ⟨F, hF⟩ : ∃ F, endW P w.heap.size (.slice none 0 0) (.slice none 0 0) (.int .i64 160) (.int .i64 pos) = F := ⟨_, rfl⟩
              rw [hF] at q0 q1 q2 q3 qB
              rw [show ((((P.setCell ⟨w.heap.size, 0, none⟩ (.slice none 0 0)).setCell ⟨w.heap.size, 1, none⟩ (.slice none 0 0)).setCell ⟨w.heap.size + 1, 0, none⟩ (.int .i64 160)).setCell ⟨w.heap.size + 1, 1, none⟩ (.int .i64 pos)) = F from hF]
              clear hF
              exact bodyPost_ret (v := .tuple #[.agg #[.slice none 0 0, .slice none 0 0], .agg #[.int .i64 160, .int .i64 pos]]) (by simp [results, Try.f17, go_sem, q0, q1, q2, q3]) rfl (ReadPost.bad HZ.out qB)
          by_cases c3 : r = 88
          · have d0 : decide (97 ≤ ((r : Int) : Int)) = false := decide_eq_false (by omega)
            have d1 : decide (65 ≤ ((r : Int) : Int)) = true := decide_eq_true (by omega)
            have d2 : decide ((r : Int) ≤ 90) = true := decide_eq_true (by omega)
            have e88 : ((r : Int) == 88) = true := by rw [beq_iff_eq]; omega
            have e88b : ((r : Int) != 88) = false := by rw [bne_eq_false_iff_eq]; omega
            as_aux_lemma =>
              have HZ := Lib.hid ((HRUN.out.1 160 (err_n rfl c0 hl) (by decide)))
              clear HRUN
              clear c0 hl
              go_wp2
              refine wp_scope_once fun J hJ => ?_
              have HJ := Lib.hid hJ
              clear hJ
              go_wp2
              go_step3
              show J _ _ _
              refine HJ.out _ _ _ _ rfl ?_
              go_wp2
              obtain ⟨q0, q1, q2, q3, qB⟩ := endW_all HM1.out.1 (.slice none 0 0) (.slice none 0 0) (.int .i64 160) (.int .i64 pos)
              obtain ⟨F, hF⟩ : ∃ F, endW P w.heap.size (.slice none 0 0) (.slice none 0 0) (.int .i64 160) (.int .i64 pos) = F := ⟨_, rfl⟩
              rw [hF] at q0 q1 q2 q3 qB
              rw [show ((((P.setCell ⟨w.heap.size, 0, none⟩ (.slice none 0 0)).setCell ⟨w.heap.size, 1, none⟩ (.slice none 0 0)).setCell ⟨w.heap.size + 1, 0, none⟩ (.int .i64 160)).setCell ⟨w.heap.size + 1, 1, none⟩ (.int .i64 pos)) = F from hF]
              clear hF
              exact bodyPost_ret (v := .tuple #[.agg #[.slice none 0 0, .slice none 0 0], .agg #[.int .i64 160, .int .i64 pos]]) (by simp [results, Try.f17, go_sem, q0, q1, q2, q3]) rfl (ReadPost.bad HZ.out qB)
          have hmid : 91 ≤ r ∧ r ≤ 96 := by unfold isLet at hl; simp at hl; omega
          have d0 : decide (97 ≤ ((r : Int) : Int)) = false := decide_eq_false (by omega)
          have d1 : decide (65 ≤ ((r : Int) : Int)) = true := decide_eq_true (by omega)
          have d2 : decide ((r : Int) ≤ 90) = false := decide_eq_false (by omega)
          as_aux_lemma =>
            have HZ := Lib.hid ((HRUN.out.1 160 (err_n rfl c0 hl) (by decide)))
            clear HRUN
            clear c0 hl
            go_wp2
            refine wp_scope_once fun J hJ => ?_
            have HJ := Lib.hid hJ
            clear hJ
            go_wp2
            go_step3
            show J _ _ _
            refine HJ.out _ _ _ _ rfl ?_
            go_wp2
            obtain ⟨q0, q1, q2, q3, qB⟩ := endW_all HM1.out.1 (.slice none 0 0) (.slice none 0 0) (.int .i64 160) (.int .i64 pos)
            obtain ⟨F, hF⟩ : ∃ F, endW P w.heap.size (.slice none 0 0) (.slice none 0 0) (.int .i64 160) (.int .i64 pos) = F := ⟨_, rfl⟩
            rw [hF] at q0 q1 q2 q3 qB
            rw [show ((((P.setCell ⟨w.heap.size, 0, none⟩ (.slice none 0 0)).setCell ⟨w.heap.size, 1, none⟩ (.slice none 0 0)).setCell ⟨w.heap.size + 1, 0, none⟩ (.int .i64 160)).setCell ⟨w.heap.size + 1, 1, none⟩ (.int .i64 pos)) = F from hF]
            clear hF
            exact bodyPost_ret (v := .tuple #[.agg #[.slice none 0 0, .slice none 0 0], .agg #[.int .i64 160, .int .i64 pos]]) (by simp [results, Try.f17, go_sem, q0, q1, q2, q3]) rfl (ReadPost.bad HZ.out qB)
        | true =>
          by_cases k0 : 97 ≤ r
          · have k1 : r ≤ 122 := by unfold isLet at hl; simp at hl; omega
            cases a with
            | true =>
              as_aux_lemma =>
                have d0 : decide (97 ≤ ((r : Int) : Int)) = true := decide_eq_true (by omega)
                have d1 : decide ((r : Int) ≤ 122) = true := decide_eq_true (by omega)
                have d2 : decide ((r : Int) ≤ 90) = false := decide_eq_false (by omega)
                by_cases c5 : L.length = 512
                · have e512 : ((L.length : Int) == 512) = true := by rw [c5]; rfl
                  as_aux_lemma =>
                    have HZ := Lib.hid ((HRUN.out.1 3 (err_512 rfl hl c5) (by decide)))
                    clear HRUN
                    clear c0 hl c5
                    go_wp2
                    refine wp_scope_once fun J hJ => ?_
                    have HJ := Lib.hid hJ
                    clear hJ
                    go_wp2
                    go_step3
                    show J _ _ _
                    refine HJ.out _ _ _ _ rfl ?_
                    go_wp2
                    obtain ⟨q0, q1, q2, q3, qB⟩ := endW_all HM1.out.1 (.slice none 0 0) (.slice none 0 0) (.int .i64 3) (.int .i64 pos)
                    obtain ⟨F, hF⟩ : ∃ F, endW P w.heap.size (.slice none 0 0) (.slice none 0 0) (.int .i64 3) (.int .i64 pos) = F := ⟨_, rfl⟩
                    rw [hF] at q0 q1 q2 q3 qB
                    rw [show ((((P.setCell ⟨w.heap.size, 0, none⟩ (.slice none 0 0)).setCell ⟨w.heap.size, 1, none⟩ (.slice none 0 0)).setCell ⟨w.heap.size + 1, 0, none⟩ (.int .i64 3)).setCell ⟨w.heap.size + 1, 1, none⟩ (.int .i64 pos)) = F from hF]
                    clear hF
                    exact bodyPost_ret (v := .tuple #[.agg #[.slice none 0 0, .slice none 0 0], .agg #[.int .i64 3, .int .i64 pos]]) (by simp [results, Try.f17, go_sem, q0, q1, q2, q3]) rfl (ReadPost.bad HZ.out qB)
                have e512 : ((L.length : Int) == 512) = false := by rw [beq_eq_false_iff_ne]; omega
                have e513 : (L.length == 512) = false := by rw [beq_eq_false_iff_ne]; omega
                have HE := Lib.hid (ok_let (st := ⟨L, S, false, true⟩) rfl hl c5)
                have hlen := HM1.out.2.2
                have hn5 : L.length ≤ 511 := by have h1 : L.length ≤ 512 := hlen.1; omega
                have hn6 : S.length ≤ 512 := by have h1 : L.length ≤ 512 := hlen.1; have h2 : S.length ≤ L.length := hlen.2.2.2.1; omega
                have hPs : w.heap.size + 4 ≤ P.heap.size := by have h1 : w.heap.size + 3 < P.heap.size := (Array.getElem?_eq_some_iff.1 HM1.out.1.1).1; omega
                obtain ⟨C, hC⟩ : ∃ C, clsL (low r) = C := ⟨_, rfl⟩
                have cC := fun W => class_any (low r) (by unfold low; split <;> omega) (by unfold low; split <;> omega) W
                rw [hC] at cC
                rw [show ((low r : Nat) : Int) = (r : Int) by unfold low; rw [if_neg (by omega)]] at cC
                have hst : ∀ (mS : Nat) (y : Int), (S ++ [0]).length = mS + 1 → (S ++ [0])[mS]? = some y → nextR ⟨L, S, false, true⟩ r = ⟨L ++ [⟨C, 0⟩], (S ++ [0]).set mS (y + 1), false, false⟩ := fun mS y h1 h2 => by
                  have h3 : mS = S.length := by simp at h1; omega
                  subst h3
                  simp at h2
                  subst h2
                  unfold nextR
                  rw [if_neg (by simp), if_neg c32, hC, show decide (r ≤ 90) = false from decide_eq_false (by omega)]
                  simp
                have HST := Lib.hid hst
                have hown : (P.alloc (.cells #[.int .i64 0] 3)).ownsRow (w.heap.size + 4) 3 1 (.slice os S.length cs) S.length (S.flatMap encI) := (HM1.out.2.1.alloc (.cells #[.int .i64 0] 3)).2.2
                have HOW := Lib.hid hown
                clear hown hlen c5 c0 hst hC hl
                go_wp2
                refine wp_scope_once fun J hJ => ?_
                have HJ := Lib.hid hJ
                clear hJ
                go_wp2
                go_step3
                show J _ _ _
                refine HJ.out _ _ _ _ rfl ?_
                go_upto_region 17 with (at_builtin; refine wpList_append_own _ rfl _ _ 23 rfl (w.heap.size + 4) 3 i0 (.int .i64 0) 1 8 Try.underlying23 hi hz0 hz1 hz2 rfl (by decide) _ _ _ rfl HOW.out ⟨P.heap.size, 0, none⟩ 1 1 [.int .i64 0] rfl rfl (cell_one_new _ _ _) (fun x hx => by simp at hx; subst hx; rfl) (by unfold maxLen; omega) (by omega) (by simp; omega) ?_; intro v2 w2 hown2 hg2 _; have hS2 := SchB.putS (S' := S ++ [0]) (HM1.out.2.1.alloc _) (by omega) hg2 (by rw [List.flatMap_append]; exact hown2) (by simp); obtain ⟨o2, c2, rfl, ho2⟩ := own_slice hown2; obtain ⟨g2, rfl⟩ := ho2 (by omega); have k2 := (HM1.out.2.1.alloc _).1.kept hg2 (fun e => by have := (HOW.out.lt _ e.symm).1; omega); have k20 := k2.cell 1; have k21 := k2.frozen 1; have HS2 := Lib.hid hS2; have HOG := Lib.hid (And.intro hown2 hg2); clear hS2 hown2 hg2 k2)
                have hRX := ((HM1.out.1.kept (World.grownBy_alloc P (.cells #[.int .i64 0] 3) none) (by simp)).kept HOG.out.2 (fun r e => by have := (HOW.out.lt _ e).1; omega)).kept (grownBy_setCell w2 (w.heap.size + 2) 1 (.slice (some ⟨g2, 0, none⟩) (S.length + 1) c2)) (fun r e => by cases e; omega)
                have hSX := HS2.out
                obtain ⟨X, hX⟩ : ∃ X, w2.setCell ⟨w.heap.size + 2, 1, none⟩ (.slice (some ⟨g2, 0, none⟩) (S.length + 1) c2) = X := ⟨_, rfl⟩
                rw [hX] at hRX hSX
                rw [show w2.setCell ⟨w.heap.size + 1 + 1, 1, none⟩ (.slice (some ⟨g2, 0, none⟩) (S.length + 1) c2) = X from hX]
                clear hX k20 k21 x0 x1 xf0 xf1 HOG HOW HS2
                obtain ⟨gS, rfl⟩ : ∃ gS, gS = g2 := ⟨_, rfl⟩
                obtain ⟨cS, rfl⟩ : ∃ cS, cS = c2 := ⟨_, rfl⟩
                obtain ⟨T, hT⟩ : ∃ T, S ++ [0] = T := ⟨_, rfl⟩
                have hTl : T.length = S.length + 1 := by rw [← hT]; simp
                obtain ⟨y, hyv, hy⟩ : ∃ y : Int, y = 0 ∧ T[S.length]? = some y := ⟨0, rfl, by rw [← hT]; simp⟩
                rw [hT] at hSX HST
                obtain ⟨mS, hmm⟩ : ∃ mS, S.length = mS := ⟨_, rfl⟩
                rw [hmm] at hSX hTl hy hn6 ⊢
                have hy0' : 0 ≤ y := by omega
                have hy5 : y ≤ 512 := by omega
                clear hmm hT hyv
                have t0 : X.cell? ⟨w.heap.size + 2, 0, none⟩ = some (.slice ol L.length cl) := hSX.1.cell 0
                have t1 : X.cell? ⟨w.heap.size + 2, 1, none⟩ = some (.slice (some ⟨gS, 0, none⟩) (mS + 1) cS) := hSX.1.cell 1
                have hmS : mS < T.length := by omega
                have hoX : X.ownsRow (w.heap.size + 4) 3 1 (.slice (some ⟨gS, 0, none⟩) (mS + 1) cS) (mS + 1) (T.flatMap encI) := by have h := hSX.2.2; rwa [hTl] at h
                have t2 : X.cell? ⟨gS, mS, none⟩ = some (.int .i64 y) := (hoX.cellAt mS (by omega)).trans (by have := fl_get (enc := encI) encI_len hy (j := 0) (by decide); simpa [encI] using this)
                have t3 : X.frozen? ⟨gS, mS, none⟩ = false := own_freeK hoX mS
                have hgS := (hSX.2.2.lt gS rfl).1
                have hSY := hSX.setS (u := .int .i64 (y + 1)) (by omega) hmS (by simp) (encI_set hmS (y + 1))
                have hRY := hRX.kept (grownBy_setCell X gS mS (.int .i64 (y + 1))) (fun r e => by cases e; omega)
                obtain ⟨Y, hY⟩ : ∃ Y, X.setCell ⟨gS, mS, none⟩ (.int .i64 (y + 1)) = Y := ⟨_, rfl⟩
                rw [hY] at hSY hRY
                have s0 : Y.cell? ⟨w.heap.size + 2, 0, none⟩ = some (.slice ol L.length cl) := hSY.1.cell 0
                have sf0 := hSY.1.frozen 0
                have HYY := Lib.hid (And.intro hSY (And.intro hRY (And.intro hTl hy)))
                clear hSX hRX hmS hgS hSY hRY hTl hy hoX
                go_wp2
                clear hY t0 t1 t2 t3
                have hYs : w.heap.size + 4 ≤ Y.heap.size := by have h1 : w.heap.size + 3 < Y.heap.size := (Array.getElem?_eq_some_iff.1 HYY.out.2.1.1).1; omega
                refine wp_region_noPanic ?_
                refine wp_region_g (S := untilG [8] (fun W => W.cell? ⟨w.heap.size + 2, 0, none⟩ = some (.slice ol L.length cl))) (by kernel_rfl) ?_
                obtain ⟨Z, hZ⟩ : ∃ Z, Y.drew = Z := ⟨_, rfl⟩
                have T0 : Z.cell? ⟨w.heap.size + 2, 0, none⟩ = some (.slice ol L.length cl) := hZ ▸ s0
                have hZs : w.heap.size + 4 ≤ Z.heap.size := hZ ▸ hYs
                have hSZ := HYY.out.1.drew
                have hRZ : RdB s w (pos + W1) Y.drew := ⟨HYY.out.2.1.1, HYY.out.2.1.2.1.drew, HYY.out.2.1.2.2.1, HYY.out.2.1.2.2.2⟩
                rw [hZ] at hSZ hRZ ⊢
                have HZZ := Lib.hid (And.intro (hSZ.alloc (.cells #[.int .i64 C, .int .i64 0] 79)) (hRZ.kept (World.grownBy_alloc Z (.cells #[.int .i64 C, .int .i64 0] 79) none) (by simp)))
                have HNW := Lib.hid (World.alloc_heap_new Z (.cells #[.int .i64 C, .int .i64 0] 79))
                clear hZ s0 sf0 hSZ hRZ hYs
                refine wpAnyG_take [0, 1, 6] (i := 0) (v := (.pointer (some ⟨w.heap.size + 1 + 1, 0, none⟩))) rfl (by kernel_rfl) (by kernel_rfl) (by kernel_rfl) (by kernel_rfl) (by kernel_rfl) (by kernel_rfl) (by kernel_rfl) (by kernel_rfl) (fun _ _ _ h => h) (Or.inl ⟨by rfl, ?hy⟩) T0 ?_
                case hy =>
                  intro X hX
                  go_simp
                try simp only [Act.put, List.getElem_toArray, List.getElem_cons_zero, List.getElem_cons_succ, List.setIfInBounds_toArray, List.set_cons_zero, List.set_cons_succ]
                refine wpAnyG_take [1, 6] (i := 1) (v := (.slice ol L.length cl)) rfl (by kernel_rfl) (by kernel_rfl) (by kernel_rfl) (by kernel_rfl) (by kernel_rfl) (by kernel_rfl) (by kernel_rfl) (by kernel_rfl) (fun _ _ _ h => h) (Or.inl ⟨by rfl, ?hy⟩) T0 ?_
                case hy =>
                  intro X hX
                  go_simp
                try simp only [Act.put, List.getElem_toArray, List.getElem_cons_zero, List.getElem_cons_succ, List.setIfInBounds_toArray, List.set_cons_zero, List.set_cons_succ]
                refine wpAnyG_take [2, 3, 4, 5, 6] (i := 2) (v := (.int .i32 (r : Int))) rfl (by kernel_rfl) (by kernel_rfl) (by kernel_rfl) (by kernel_rfl) (by kernel_rfl) (by kernel_rfl) (by kernel_rfl) (by kernel_rfl) (fun _ _ _ h => h) (Or.inl ⟨by rfl, ?hy⟩) T0 ?_
                case hy =>
                  intro X hX
                  go_simp
                try simp only [Act.put, List.getElem_toArray, List.getElem_cons_zero, List.getElem_cons_succ, List.setIfInBounds_toArray, List.set_cons_zero, List.set_cons_succ]
                refine wpAnyG_all (rs := [3]) (by kernel_rfl) (by simp) ?_
                intro i hi
                simp only [List.mem_cons, List.not_mem_nil, or_false] at hi
                subst hi
                refine wpOp_now rfl rfl ?_
                go_simp
                refine (cC _).mono ?_
                rintro e X3 ⟨rfl, hX3⟩
                subst hX3
                refine ⟨fun _ => T0, ?_⟩
                try simp only [Act.put, List.getElem_toArray, List.getElem_cons_zero, List.getElem_cons_succ, List.setIfInBounds_toArray, List.set_cons_zero, List.set_cons_succ]
                refine wpAnyG_all (rs := [4]) (by kernel_rfl) (by simp) ?_
                intro i hi
                simp only [List.mem_cons, List.not_mem_nil, or_false] at hi
                subst hi
                refine wpOp_now rfl rfl ?_
                go_simp
                refine ⟨fun _ => T0, ?_⟩
                try simp only [Act.put, List.getElem_toArray, List.getElem_cons_zero, List.getElem_cons_succ, List.setIfInBounds_toArray, List.set_cons_zero, List.set_cons_succ]
                refine wpAnyG_all (rs := [5]) (by kernel_rfl) (by simp) ?_
                intro i hi
                simp only [List.mem_cons, List.not_mem_nil, or_false] at hi
                subst hi
                refine wpOp_now rfl rfl ?_
                go_simp
                have T1 : (X3.alloc (.cells #[.int .i64 C, .int .i64 0] 79)).cell? ⟨w.heap.size + 2, 0, none⟩ = some (.slice ol L.length cl) := HZZ.out.1.1.cell 0
                refine ⟨fun _ => T1, ?_⟩
                try simp only [Act.put, List.getElem_toArray, List.getElem_cons_zero, List.getElem_cons_succ, List.setIfInBounds_toArray, List.set_cons_zero, List.set_cons_succ]
                refine wpAnyG_all (rs := [6]) (by kernel_rfl) (by simp) ?_
                intro i hi6
                simp only [List.mem_cons, List.not_mem_nil, or_false] at hi6
                subst hi6
                refine wpOp_now rfl rfl ?_
                refine opwp_append _ _ 22 rfl (w.heap.size + 4) 79 j0 (.agg #[.int .i64 0, .int .i64 0]) 2 16 Try.underlying22 hj hy0 hy1 hy2 rfl (by decide) _ _ _ rfl HZZ.out.1.2.1 ⟨X3.heap.size, 0, none⟩ 1 1 [.int .i64 C, .int .i64 0] rfl rfl (World.news_of_block (cs := #[.int .i64 C, .int .i64 0]) (t := 79) (fr := (0, 0)) HNW.out) (fun x hx => by simp at hx; rcases hx with rfl | rfl <;> rfl) (by show L.length + 1 ≤ maxLen; unfold maxLen; omega) (by show (L.length + 1) * 16 ≤ _; omega) (by simp; omega) ?_
                intro v3 w3 hown3 hg3
                have k3 := HZZ.out.1.1.kept hg3 (fun e => by have := (HZZ.out.1.2.1.lt _ e.symm).1; omega)
                have k30 : w3.cell? ⟨w.heap.size + 2, 0, none⟩ = some (.slice ol L.length cl) := k3.cell 0
                have k31 := k3.frozen 0
                have hS3 := SchB.putL (L' := L ++ [⟨C, 0⟩]) HZZ.out.1 (by omega) hg3 (by rw [List.flatMap_append]; exact hown3) (by simp)
                have hR3 := (HZZ.out.2.kept hg3 (fun r e => by have := (HZZ.out.1.2.1.lt _ e).1; omega)).kept (grownBy_setCell w3 (w.heap.size + 2) 0 v3) (fun r e => by cases e; omega)
                have HW3 := Lib.hid (And.intro hR3 hS3)
                obtain ⟨o3, c3, rfl, _⟩ := own_slice hown3
                clear k3 hS3 hR3 hown3 hg3
                refine ⟨fun _ => k30, ?_⟩
                try simp only [Act.put, List.getElem_toArray, List.getElem_cons_zero, List.getElem_cons_succ, List.setIfInBounds_toArray, List.set_cons_zero, List.set_cons_succ]
                refine wpAnyG_all (rs := [7]) (by kernel_rfl) (by simp) ?_
                intro i hi
                simp only [List.mem_cons, List.not_mem_nil, or_false] at hi
                subst hi
                refine wpOp_now rfl rfl ?_
                go_simp
                refine ⟨fun _ => k30, ?_⟩
                try simp only [Act.put, List.getElem_toArray, List.getElem_cons_zero, List.getElem_cons_succ, List.setIfInBounds_toArray, List.set_cons_zero, List.set_cons_succ]
                refine wpAnyG_all (rs := [8]) (by kernel_rfl) (by simp) ?_
                intro i hi
                simp only [List.mem_cons, List.not_mem_nil, or_false] at hi
                subst hi
                refine wpOp_now rfl rfl ?_
                go_simp
                refine ⟨fun h => (nomatch (show (false : Bool) = true from h)), ?_⟩
                try simp only [Act.put, List.getElem_toArray, List.getElem_cons_zero, List.getElem_cons_succ, List.setIfInBounds_toArray, List.set_cons_zero, List.set_cons_succ]
                refine wpAnyG_done (by kernel_rfl) ?_ _
                refine NoPanic.normal ?_

                go_wp2
                rw [Exit.noGoto_exit]
                go_wp2
                have HEND := Lib.hid (rd_next HRUN.out HE.out HM1.out.2.2 (HST.out _ _ HYY.out.2.2.1 HYY.out.2.2.2) HM.out hdw.2 ⟨HW3.out.1, _, _, HW3.out.2⟩)
                go_roundw
                case rel => exact HEND.out.1
                case measure => exact HEND.out.2
            | false =>
              as_aux_lemma =>
                have d0 : decide (97 ≤ ((r : Int) : Int)) = true := decide_eq_true (by omega)
                have d1 : decide ((r : Int) ≤ 122) = true := decide_eq_true (by omega)
                have d2 : decide ((r : Int) ≤ 90) = false := decide_eq_false (by omega)
                by_cases c5 : L.length = 512
                · have e512 : ((L.length : Int) == 512) = true := by rw [c5]; rfl
                  as_aux_lemma =>
                    have HZ := Lib.hid ((HRUN.out.1 3 (err_512 rfl hl c5) (by decide)))
                    clear HRUN
                    clear c0 hl c5
                    go_wp2
                    refine wp_scope_once fun J hJ => ?_
                    have HJ := Lib.hid hJ
                    clear hJ
                    go_wp2
                    go_step3
                    show J _ _ _
                    refine HJ.out _ _ _ _ rfl ?_
                    go_wp2
                    obtain ⟨q0, q1, q2, q3, qB⟩ := endW_all HM1.out.1 (.slice none 0 0) (.slice none 0 0) (.int .i64 3) (.int .i64 pos)
                    obtain ⟨F, hF⟩ : ∃ F, endW P w.heap.size (.slice none 0 0) (.slice none 0 0) (.int .i64 3) (.int .i64 pos) = F := ⟨_, rfl⟩
                    rw [hF] at q0 q1 q2 q3 qB
                    rw [show ((((P.setCell ⟨w.heap.size, 0, none⟩ (.slice none 0 0)).setCell ⟨w.heap.size, 1, none⟩ (.slice none 0 0)).setCell ⟨w.heap.size + 1, 0, none⟩ (.int .i64 3)).setCell ⟨w.heap.size + 1, 1, none⟩ (.int .i64 pos)) = F from hF]
                    clear hF
                    exact bodyPost_ret (v := .tuple #[.agg #[.slice none 0 0, .slice none 0 0], .agg #[.int .i64 3, .int .i64 pos]]) (by simp [results, Try.f17, go_sem, q0, q1, q2, q3]) rfl (ReadPost.bad HZ.out qB)
                have e512 : ((L.length : Int) == 512) = false := by rw [beq_eq_false_iff_ne]; omega
                have e513 : (L.length == 512) = false := by rw [beq_eq_false_iff_ne]; omega
                have HE := Lib.hid (ok_let (st := ⟨L, S, false, false⟩) rfl hl c5)
                have hlen := HM1.out.2.2
                have hn5 : L.length ≤ 511 := by have h1 : L.length ≤ 512 := hlen.1; omega
                have hn6 : S.length ≤ 512 := by have h1 : L.length ≤ 512 := hlen.1; have h2 : S.length ≤ L.length := hlen.2.2.2.1; omega
                have hPs : w.heap.size + 4 ≤ P.heap.size := by have h1 : w.heap.size + 3 < P.heap.size := (Array.getElem?_eq_some_iff.1 HM1.out.1.1).1; omega
                obtain ⟨C, hC⟩ : ∃ C, clsL (low r) = C := ⟨_, rfl⟩
                have cC := fun W => class_any (low r) (by unfold low; split <;> omega) (by unfold low; split <;> omega) W
                rw [hC] at cC
                rw [show ((low r : Nat) : Int) = (r : Int) by unfold low; rw [if_neg (by omega)]] at cC
                have hst : ∀ (mS : Nat) (y : Int), S.length = mS + 1 → S[mS]? = some y → nextR ⟨L, S, false, false⟩ r = ⟨L ++ [⟨C, 0⟩], S.set mS (y + 1), false, false⟩ := fun mS y h1 h2 => by
                  skip
                  skip
                  skip
                  skip
                  unfold nextR
                  rw [if_neg (by simp), if_neg c32, hC, show decide (r ≤ 90) = false from decide_eq_false (by omega)]
                  simp [show bump S = S.set mS (y + 1) by unfold bump; rw [List.getLast?_eq_getElem?, h1, Nat.add_sub_cancel, h2]; rfl]
                have HST := Lib.hid hst
                obtain ⟨mS, hTl⟩ : ∃ mS, S.length = mS + 1 := ⟨S.length - 1, by have h1 : 0 < S.length := List.length_pos_iff.2 (hlen.2.2.1 rfl); omega⟩
                obtain ⟨gS, rfl⟩ := HO.out.2 (show 0 < S.length by omega)
                obtain ⟨y, hy⟩ : ∃ y, S[mS]? = some y := ⟨_, List.getElem?_eq_getElem (by omega)⟩
                have hyb := hlen.2.2.2.2 y (List.mem_of_getElem? hy)
                have hy0' : 0 ≤ y := hyb.1
                have hy5 : y ≤ 512 := by have h1 : y ≤ (L.length : Int) := hyb.2; omega
                have hRX := HM1.out.1
                have hSX : SchB P (w.heap.size + 2) (w.heap.size + 4) (.slice ol L.length cl) (.slice (some ⟨gS, 0, none⟩) (mS + 1) cs) L S := hTl ▸ HM1.out.2.1
                have hmb : mS ≤ 511 := by omega
                clear hlen c5 c0 hst hC hl hyb
                rw [hTl] at x1
                go_wp2
                refine wp_scope_once fun J hJ => ?_
                have HJ := Lib.hid hJ
                clear hJ
                go_wp2
                go_step3
                show J _ _ _
                refine HJ.out _ _ _ _ rfl ?_
                go_upto_region 17 with (fail)
                obtain ⟨X, rfl⟩ : ∃ X, X = P := ⟨_, rfl⟩
                obtain ⟨cS, rfl⟩ : ∃ cS, cS = cs := ⟨_, rfl⟩
                obtain ⟨T, rfl⟩ : ∃ T, T = S := ⟨_, rfl⟩
                have t0 : X.cell? ⟨w.heap.size + 2, 0, none⟩ = some (.slice ol L.length cl) := hSX.1.cell 0
                have t1 : X.cell? ⟨w.heap.size + 2, 1, none⟩ = some (.slice (some ⟨gS, 0, none⟩) (mS + 1) cS) := hSX.1.cell 1
                have hmS : mS < T.length := by omega
                have hoX : X.ownsRow (w.heap.size + 4) 3 1 (.slice (some ⟨gS, 0, none⟩) (mS + 1) cS) (mS + 1) (T.flatMap encI) := by have h := hSX.2.2; rwa [hTl] at h
                have t2 : X.cell? ⟨gS, mS, none⟩ = some (.int .i64 y) := (hoX.cellAt mS (by omega)).trans (by have := fl_get (enc := encI) encI_len hy (j := 0) (by decide); simpa [encI] using this)
                have t3 : X.frozen? ⟨gS, mS, none⟩ = false := own_freeK hoX mS
                have hgS := (hSX.2.2.lt gS rfl).1
                have hSY := hSX.setS (u := .int .i64 (y + 1)) (by omega) hmS (by simp) (encI_set hmS (y + 1))
                have hRY := hRX.kept (grownBy_setCell X gS mS (.int .i64 (y + 1))) (fun r e => by cases e; omega)
                obtain ⟨Y, hY⟩ : ∃ Y, X.setCell ⟨gS, mS, none⟩ (.int .i64 (y + 1)) = Y := ⟨_, rfl⟩
                rw [hY] at hSY hRY
                have s0 : Y.cell? ⟨w.heap.size + 2, 0, none⟩ = some (.slice ol L.length cl) := hSY.1.cell 0
                have sf0 := hSY.1.frozen 0
                have HYY := Lib.hid (And.intro hSY (And.intro hRY (And.intro hTl hy)))
                clear hSX hRX hmS hgS hSY hRY hTl hy hoX
                go_wp2
                clear hY t0 t1 t2 t3
                have hYs : w.heap.size + 4 ≤ Y.heap.size := by have h1 : w.heap.size + 3 < Y.heap.size := (Array.getElem?_eq_some_iff.1 HYY.out.2.1.1).1; omega
                refine wp_region_noPanic ?_
                refine wp_region_g (S := untilG [8] (fun W => W.cell? ⟨w.heap.size + 2, 0, none⟩ = some (.slice ol L.length cl))) (by kernel_rfl) ?_
                obtain ⟨Z, hZ⟩ : ∃ Z, Y.drew = Z := ⟨_, rfl⟩
                have T0 : Z.cell? ⟨w.heap.size + 2, 0, none⟩ = some (.slice ol L.length cl) := hZ ▸ s0
                have hZs : w.heap.size + 4 ≤ Z.heap.size := hZ ▸ hYs
                have hSZ := HYY.out.1.drew
                have hRZ : RdB s w (pos + W1) Y.drew := ⟨HYY.out.2.1.1, HYY.out.2.1.2.1.drew, HYY.out.2.1.2.2.1, HYY.out.2.1.2.2.2⟩
                rw [hZ] at hSZ hRZ ⊢
                have HZZ := Lib.hid (And.intro (hSZ.alloc (.cells #[.int .i64 C, .int .i64 0] 79)) (hRZ.kept (World.grownBy_alloc Z (.cells #[.int .i64 C, .int .i64 0] 79) none) (by simp)))
                have HNW := Lib.hid (World.alloc_heap_new Z (.cells #[.int .i64 C, .int .i64 0] 79))
                clear hZ s0 sf0 hSZ hRZ hYs
                refine wpAnyG_take [0, 1, 6] (i := 0) (v := (.pointer (some ⟨w.heap.size + 1 + 1, 0, none⟩))) rfl (by kernel_rfl) (by kernel_rfl) (by kernel_rfl) (by kernel_rfl) (by kernel_rfl) (by kernel_rfl) (by kernel_rfl) (by kernel_rfl) (fun _ _ _ h => h) (Or.inl ⟨by rfl, ?hy⟩) T0 ?_
                case hy =>
                  intro X hX
                  go_simp
                try simp only [Act.put, List.getElem_toArray, List.getElem_cons_zero, List.getElem_cons_succ, List.setIfInBounds_toArray, List.set_cons_zero, List.set_cons_succ]
                refine wpAnyG_take [1, 6] (i := 1) (v := (.slice ol L.length cl)) rfl (by kernel_rfl) (by kernel_rfl) (by kernel_rfl) (by kernel_rfl) (by kernel_rfl) (by kernel_rfl) (by kernel_rfl) (by kernel_rfl) (fun _ _ _ h => h) (Or.inl ⟨by rfl, ?hy⟩) T0 ?_
                case hy =>
                  intro X hX
                  go_simp
                try simp only [Act.put, List.getElem_toArray, List.getElem_cons_zero, List.getElem_cons_succ, List.setIfInBounds_toArray, List.set_cons_zero, List.set_cons_succ]
                refine wpAnyG_take [2, 3, 4, 5, 6] (i := 2) (v := (.int .i32 (r : Int))) rfl (by kernel_rfl) (by kernel_rfl) (by kernel_rfl) (by kernel_rfl) (by kernel_rfl) (by kernel_rfl) (by kernel_rfl) (by kernel_rfl) (fun _ _ _ h => h) (Or.inl ⟨by rfl, ?hy⟩) T0 ?_
                case hy =>
                  intro X hX
                  go_simp
                try simp only [Act.put, List.getElem_toArray, List.getElem_cons_zero, List.getElem_cons_succ, List.setIfInBounds_toArray, List.set_cons_zero, List.set_cons_succ]
                refine wpAnyG_all (rs := [3]) (by kernel_rfl) (by simp) ?_
                intro i hi
                simp only [List.mem_cons, List.not_mem_nil, or_false] at hi
                subst hi
                refine wpOp_now rfl rfl ?_
                go_simp
                refine (cC _).mono ?_
                rintro e X3 ⟨rfl, hX3⟩
                subst hX3
                refine ⟨fun _ => T0, ?_⟩
                try simp only [Act.put, List.getElem_toArray, List.getElem_cons_zero, List.getElem_cons_succ, List.setIfInBounds_toArray, List.set_cons_zero, List.set_cons_succ]
                refine wpAnyG_all (rs := [4]) (by kernel_rfl) (by simp) ?_
                intro i hi
                simp only [List.mem_cons, List.not_mem_nil, or_false] at hi
                subst hi
                refine wpOp_now rfl rfl ?_
                go_simp
                refine ⟨fun _ => T0, ?_⟩
                try simp only [Act.put, List.getElem_toArray, List.getElem_cons_zero, List.getElem_cons_succ, List.setIfInBounds_toArray, List.set_cons_zero, List.set_cons_succ]
                refine wpAnyG_all (rs := [5]) (by kernel_rfl) (by simp) ?_
                intro i hi
                simp only [List.mem_cons, List.not_mem_nil, or_false] at hi
                subst hi
                refine wpOp_now rfl rfl ?_
                go_simp
                have T1 : (X3.alloc (.cells #[.int .i64 C, .int .i64 0] 79)).cell? ⟨w.heap.size + 2, 0, none⟩ = some (.slice ol L.length cl) := HZZ.out.1.1.cell 0
                refine ⟨fun _ => T1, ?_⟩
                try simp only [Act.put, List.getElem_toArray, List.getElem_cons_zero, List.getElem_cons_succ, List.setIfInBounds_toArray, List.set_cons_zero, List.set_cons_succ]
                refine wpAnyG_all (rs := [6]) (by kernel_rfl) (by simp) ?_
                intro i hi6
                simp only [List.mem_cons, List.not_mem_nil, or_false] at hi6
                subst hi6
                refine wpOp_now rfl rfl ?_
                refine opwp_append _ _ 22 rfl (w.heap.size + 4) 79 j0 (.agg #[.int .i64 0, .int .i64 0]) 2 16 Try.underlying22 hj hy0 hy1 hy2 rfl (by decide) _ _ _ rfl HZZ.out.1.2.1 ⟨X3.heap.size, 0, none⟩ 1 1 [.int .i64 C, .int .i64 0] rfl rfl (World.news_of_block (cs := #[.int .i64 C, .int .i64 0]) (t := 79) (fr := (0, 0)) HNW.out) (fun x hx => by simp at hx; rcases hx with rfl | rfl <;> rfl) (by show L.length + 1 ≤ maxLen; unfold maxLen; omega) (by show (L.length + 1) * 16 ≤ _; omega) (by simp; omega) ?_
                intro v3 w3 hown3 hg3
                have k3 := HZZ.out.1.1.kept hg3 (fun e => by have := (HZZ.out.1.2.1.lt _ e.symm).1; omega)
                have k30 : w3.cell? ⟨w.heap.size + 2, 0, none⟩ = some (.slice ol L.length cl) := k3.cell 0
                have k31 := k3.frozen 0
                have hS3 := SchB.putL (L' := L ++ [⟨C, 0⟩]) HZZ.out.1 (by omega) hg3 (by rw [List.flatMap_append]; exact hown3) (by simp)
                have hR3 := (HZZ.out.2.kept hg3 (fun r e => by have := (HZZ.out.1.2.1.lt _ e).1; omega)).kept (grownBy_setCell w3 (w.heap.size + 2) 0 v3) (fun r e => by cases e; omega)
                have HW3 := Lib.hid (And.intro hR3 hS3)
                obtain ⟨o3, c3, rfl, _⟩ := own_slice hown3
                clear k3 hS3 hR3 hown3 hg3
                refine ⟨fun _ => k30, ?_⟩
                try simp only [Act.put, List.getElem_toArray, List.getElem_cons_zero, List.getElem_cons_succ, List.setIfInBounds_toArray, List.set_cons_zero, List.set_cons_succ]
                refine wpAnyG_all (rs := [7]) (by kernel_rfl) (by simp) ?_
                intro i hi
                simp only [List.mem_cons, List.not_mem_nil, or_false] at hi
                subst hi
                refine wpOp_now rfl rfl ?_
                go_simp
                refine ⟨fun _ => k30, ?_⟩
                try simp only [Act.put, List.getElem_toArray, List.getElem_cons_zero, List.getElem_cons_succ, List.setIfInBounds_toArray, List.set_cons_zero, List.set_cons_succ]
                refine wpAnyG_all (rs := [8]) (by kernel_rfl) (by simp) ?_
                intro i hi
                simp only [List.mem_cons, List.not_mem_nil, or_false] at hi
                subst hi
                refine wpOp_now rfl rfl ?_
                go_simp
                refine ⟨fun h => (nomatch (show (false : Bool) = true from h)), ?_⟩
                try simp only [Act.put, List.getElem_toArray, List.getElem_cons_zero, List.getElem_cons_succ, List.setIfInBounds_toArray, List.set_cons_zero, List.set_cons_succ]
                refine wpAnyG_done (by kernel_rfl) ?_ _
                refine NoPanic.normal ?_

                go_wp2
                rw [Exit.noGoto_exit]
                go_wp2
                have HEND := Lib.hid (rd_next HRUN.out HE.out HM1.out.2.2 (HST.out _ _ HYY.out.2.2.1 HYY.out.2.2.2) HM.out hdw.2 ⟨HW3.out.1, _, _, HW3.out.2⟩)
                go_roundw
                case rel => exact HEND.out.1
                case measure => exact HEND.out.2
          have k1 : 65 ≤ r ∧ r ≤ 90 ∧ r ≠ 88 := by unfold isLet at hl; simp at hl; omega
          cases a with
          | true =>
            as_aux_lemma =>
              have d0 : decide (97 ≤ ((r : Int) : Int)) = false := decide_eq_false (by omega)
              have d1 : decide (65 ≤ ((r : Int) : Int)) = true := decide_eq_true (by omega)
              have d2 : decide ((r : Int) ≤ 90) = true := decide_eq_true (by omega)
              have e88 : ((r : Int) == 88) = false := by rw [beq_eq_false_iff_ne]; omega
              have e88b : ((r : Int) != 88) = true := by rw [bne_iff_ne]; omega
              by_cases c5 : L.length = 512
              · have e512 : ((L.length : Int) == 512) = true := by rw [c5]; rfl
                as_aux_lemma =>
                  have HZ := Lib.hid ((HRUN.out.1 3 (err_512 rfl hl c5) (by decide)))
                  clear HRUN
                  clear c0 hl c5
                  go_wp2
                  refine wp_scope_once fun J hJ => ?_
                  have HJ := Lib.hid hJ
                  clear hJ
                  go_wp2
                  go_step3
                  show J _ _ _
                  refine HJ.out _ _ _ _ rfl ?_
                  go_wp2
                  obtain ⟨q0, q1, q2, q3, qB⟩ := endW_all HM1.out.1 (.slice none 0 0) (.slice none 0 0) (.int .i64 3) (.int .i64 pos)
                  obtain ⟨F, hF⟩ : ∃ F, endW P w.heap.size (.slice none 0 0) (.slice none 0 0) (.int .i64 3) (.int .i64 pos) = F := ⟨_, rfl⟩
                  rw [hF] at q0 q1 q2 q3 qB
                  rw [show ((((P.setCell ⟨w.heap.size, 0, none⟩ (.slice none 0 0)).setCell ⟨w.heap.size, 1, none⟩ (.slice none 0 0)).setCell ⟨w.heap.size + 1, 0, none⟩ (.int .i64 3)).setCell ⟨w.heap.size + 1, 1, none⟩ (.int .i64 pos)) = F from hF]
                  clear hF
                  exact bodyPost_ret (v := .tuple #[.agg #[.slice none 0 0, .slice none 0 0], .agg #[.int .i64 3, .int .i64 pos]]) (by simp [results, Try.f17, go_sem, q0, q1, q2, q3]) rfl (ReadPost.bad HZ.out qB)
              have e512 : ((L.length : Int) == 512) = false := by rw [beq_eq_false_iff_ne]; omega
              have e513 : (L.length == 512) = false := by rw [beq_eq_false_iff_ne]; omega
              have HE := Lib.hid (ok_let (st := ⟨L, S, false, true⟩) rfl hl c5)
              have hlen := HM1.out.2.2
              have hn5 : L.length ≤ 511 := by have h1 : L.length ≤ 512 := hlen.1; omega
              have hn6 : S.length ≤ 512 := by have h1 : L.length ≤ 512 := hlen.1; have h2 : S.length ≤ L.length := hlen.2.2.2.1; omega
              have hPs : w.heap.size + 4 ≤ P.heap.size := by have h1 : w.heap.size + 3 < P.heap.size := (Array.getElem?_eq_some_iff.1 HM1.out.1.1).1; omega
              obtain ⟨C, hC⟩ : ∃ C, clsL (low r) = C := ⟨_, rfl⟩
              have cC := fun W => class_any (low r) (by unfold low; split <;> omega) (by unfold low; split <;> omega) W
              rw [hC] at cC
              rw [show ((low r : Nat) : Int) = (r : Int) + 32 by unfold low; rw [if_pos (by omega)]; rfl] at cC
              have hst : ∀ (mS : Nat) (y : Int), (S ++ [0]).length = mS + 1 → (S ++ [0])[mS]? = some y → nextR ⟨L, S, false, true⟩ r = ⟨L ++ [⟨C, 0⟩], (S ++ [0]).set mS (y + 1), true, false⟩ := fun mS y h1 h2 => by
                have h3 : mS = S.length := by simp at h1; omega
                subst h3
                simp at h2
                subst h2
                unfold nextR
                rw [if_neg (by simp), if_neg c32, hC, show decide (r ≤ 90) = true from decide_eq_true (by omega)]
                simp
              have HST := Lib.hid hst
              have hown : (P.alloc (.cells #[.int .i64 0] 3)).ownsRow (w.heap.size + 4) 3 1 (.slice os S.length cs) S.length (S.flatMap encI) := (HM1.out.2.1.alloc (.cells #[.int .i64 0] 3)).2.2
              have HOW := Lib.hid hown
              clear hown hlen c5 c0 hst hC hl
              go_wp2
              refine wp_scope_once fun J hJ => ?_
              have HJ := Lib.hid hJ
              clear hJ
              go_wp2
              go_step3
              show J _ _ _
              refine HJ.out _ _ _ _ rfl ?_
              go_upto_region 17 with (at_builtin; refine wpList_append_own _ rfl _ _ 23 rfl (w.heap.size + 4) 3 i0 (.int .i64 0) 1 8 Try.underlying23 hi hz0 hz1 hz2 rfl (by decide) _ _ _ rfl HOW.out ⟨P.heap.size, 0, none⟩ 1 1 [.int .i64 0] rfl rfl (cell_one_new _ _ _) (fun x hx => by simp at hx; subst hx; rfl) (by unfold maxLen; omega) (by omega) (by simp; omega) ?_; intro v2 w2 hown2 hg2 _; have hS2 := SchB.putS (S' := S ++ [0]) (HM1.out.2.1.alloc _) (by omega) hg2 (by rw [List.flatMap_append]; exact hown2) (by simp); obtain ⟨o2, c2, rfl, ho2⟩ := own_slice hown2; obtain ⟨g2, rfl⟩ := ho2 (by omega); have k2 := (HM1.out.2.1.alloc _).1.kept hg2 (fun e => by have := (HOW.out.lt _ e.symm).1; omega); have k20 := k2.cell 1; have k21 := k2.frozen 1; have HS2 := Lib.hid hS2; have HOG := Lib.hid (And.intro hown2 hg2); clear hS2 hown2 hg2 k2)
              have hRX := ((HM1.out.1.kept (World.grownBy_alloc P (.cells #[.int .i64 0] 3) none) (by simp)).kept HOG.out.2 (fun r e => by have := (HOW.out.lt _ e).1; omega)).kept (grownBy_setCell w2 (w.heap.size + 2) 1 (.slice (some ⟨g2, 0, none⟩) (S.length + 1) c2)) (fun r e => by cases e; omega)
              have hSX := HS2.out
              obtain ⟨X, hX⟩ : ∃ X, w2.setCell ⟨w.heap.size + 2, 1, none⟩ (.slice (some ⟨g2, 0, none⟩) (S.length + 1) c2) = X := ⟨_, rfl⟩
              rw [hX] at hRX hSX
              rw [show w2.setCell ⟨w.heap.size + 1 + 1, 1, none⟩ (.slice (some ⟨g2, 0, none⟩) (S.length + 1) c2) = X from hX]
              clear hX k20 k21 x0 x1 xf0 xf1 HOG HOW HS2
              obtain ⟨gS, rfl⟩ : ∃ gS, gS = g2 := ⟨_, rfl⟩
              obtain ⟨cS, rfl⟩ : ∃ cS, cS = c2 := ⟨_, rfl⟩
              obtain ⟨T, hT⟩ : ∃ T, S ++ [0] = T := ⟨_, rfl⟩
              have hTl : T.length = S.length + 1 := by rw [← hT]; simp
              obtain ⟨y, hyv, hy⟩ : ∃ y : Int, y = 0 ∧ T[S.length]? = some y := ⟨0, rfl, by rw [← hT]; simp⟩
              rw [hT] at hSX HST
              obtain ⟨mS, hmm⟩ : ∃ mS, S.length = mS := ⟨_, rfl⟩
              rw [hmm] at hSX hTl hy hn6 ⊢
              have hy0' : 0 ≤ y := by omega
              have hy5 : y ≤ 512 := by omega
              clear hmm hT hyv
              have t0 : X.cell? ⟨w.heap.size + 2, 0, none⟩ = some (.slice ol L.length cl) := hSX.1.cell 0
              have t1 : X.cell? ⟨w.heap.size + 2, 1, none⟩ = some (.slice (some ⟨gS, 0, none⟩) (mS + 1) cS) := hSX.1.cell 1
              have hmS : mS < T.length := by omega
              have hoX : X.ownsRow (w.heap.size + 4) 3 1 (.slice (some ⟨gS, 0, none⟩) (mS + 1) cS) (mS + 1) (T.flatMap encI) := by have h := hSX.2.2; rwa [hTl] at h
              have t2 : X.cell? ⟨gS, mS, none⟩ = some (.int .i64 y) := (hoX.cellAt mS (by omega)).trans (by have := fl_get (enc := encI) encI_len hy (j := 0) (by decide); simpa [encI] using this)
              have t3 : X.frozen? ⟨gS, mS, none⟩ = false := own_freeK hoX mS
              have hgS := (hSX.2.2.lt gS rfl).1
              have hSY := hSX.setS (u := .int .i64 (y + 1)) (by omega) hmS (by simp) (encI_set hmS (y + 1))
              have hRY := hRX.kept (grownBy_setCell X gS mS (.int .i64 (y + 1))) (fun r e => by cases e; omega)
              obtain ⟨Y, hY⟩ : ∃ Y, X.setCell ⟨gS, mS, none⟩ (.int .i64 (y + 1)) = Y := ⟨_, rfl⟩
              rw [hY] at hSY hRY
              have s0 : Y.cell? ⟨w.heap.size + 2, 0, none⟩ = some (.slice ol L.length cl) := hSY.1.cell 0
              have sf0 := hSY.1.frozen 0
              have HYY := Lib.hid (And.intro hSY (And.intro hRY (And.intro hTl hy)))
              clear hSX hRX hmS hgS hSY hRY hTl hy hoX
              go_wp2
              clear hY t0 t1 t2 t3
              have hYs : w.heap.size + 4 ≤ Y.heap.size := by have h1 : w.heap.size + 3 < Y.heap.size := (Array.getElem?_eq_some_iff.1 HYY.out.2.1.1).1; omega
              refine wp_region_noPanic ?_
              refine wp_region_g (S := untilG [8] (fun W => W.cell? ⟨w.heap.size + 2, 0, none⟩ = some (.slice ol L.length cl))) (by kernel_rfl) ?_
              obtain ⟨Z, hZ⟩ : ∃ Z, Y.drew = Z := ⟨_, rfl⟩
              have T0 : Z.cell? ⟨w.heap.size + 2, 0, none⟩ = some (.slice ol L.length cl) := hZ ▸ s0
              have hZs : w.heap.size + 4 ≤ Z.heap.size := hZ ▸ hYs
              have hSZ := HYY.out.1.drew
              have hRZ : RdB s w (pos + W1) Y.drew := ⟨HYY.out.2.1.1, HYY.out.2.1.2.1.drew, HYY.out.2.1.2.2.1, HYY.out.2.1.2.2.2⟩
              rw [hZ] at hSZ hRZ ⊢
              have HZZ := Lib.hid (And.intro (hSZ.alloc (.cells #[.int .i64 C, .int .i64 0] 79)) (hRZ.kept (World.grownBy_alloc Z (.cells #[.int .i64 C, .int .i64 0] 79) none) (by simp)))
              have HNW := Lib.hid (World.alloc_heap_new Z (.cells #[.int .i64 C, .int .i64 0] 79))
              clear hZ s0 sf0 hSZ hRZ hYs
              refine wpAnyG_take [0, 1, 6] (i := 0) (v := (.pointer (some ⟨w.heap.size + 1 + 1, 0, none⟩))) rfl (by kernel_rfl) (by kernel_rfl) (by kernel_rfl) (by kernel_rfl) (by kernel_rfl) (by kernel_rfl) (by kernel_rfl) (by kernel_rfl) (fun _ _ _ h => h) (Or.inl ⟨by rfl, ?hy⟩) T0 ?_
              case hy =>
                intro X hX
                go_simp
              try simp only [Act.put, List.getElem_toArray, List.getElem_cons_zero, List.getElem_cons_succ, List.setIfInBounds_toArray, List.set_cons_zero, List.set_cons_succ]
              refine wpAnyG_take [1, 6] (i := 1) (v := (.slice ol L.length cl)) rfl (by kernel_rfl) (by kernel_rfl) (by kernel_rfl) (by kernel_rfl) (by kernel_rfl) (by kernel_rfl) (by kernel_rfl) (by kernel_rfl) (fun _ _ _ h => h) (Or.inl ⟨by rfl, ?hy⟩) T0 ?_
              case hy =>
                intro X hX
                go_simp
              try simp only [Act.put, List.getElem_toArray, List.getElem_cons_zero, List.getElem_cons_succ, List.setIfInBounds_toArray, List.set_cons_zero, List.set_cons_succ]
              refine wpAnyG_take [2, 3, 4, 5, 6] (i := 2) (v := (.int .i32 ((r : Int) + 32))) rfl (by kernel_rfl) (by kernel_rfl) (by kernel_rfl) (by kernel_rfl) (by kernel_rfl) (by kernel_rfl) (by kernel_rfl) (by kernel_rfl) (fun _ _ _ h => h) (Or.inl ⟨by rfl, ?hy⟩) T0 ?_
              case hy =>
                intro X hX
                go_simp
              try simp only [Act.put, List.getElem_toArray, List.getElem_cons_zero, List.getElem_cons_succ, List.setIfInBounds_toArray, List.set_cons_zero, List.set_cons_succ]
              refine wpAnyG_all (rs := [3]) (by kernel_rfl) (by simp) ?_
              intro i hi
              simp only [List.mem_cons, List.not_mem_nil, or_false] at hi
              subst hi
              refine wpOp_now rfl rfl ?_
              go_simp
              refine (cC _).mono ?_
              rintro e X3 ⟨rfl, hX3⟩
              subst hX3
              refine ⟨fun _ => T0, ?_⟩
              try simp only [Act.put, List.getElem_toArray, List.getElem_cons_zero, List.getElem_cons_succ, List.setIfInBounds_toArray, List.set_cons_zero, List.set_cons_succ]
              refine wpAnyG_all (rs := [4]) (by kernel_rfl) (by simp) ?_
              intro i hi
              simp only [List.mem_cons, List.not_mem_nil, or_false] at hi
              subst hi
              refine wpOp_now rfl rfl ?_
              go_simp
              refine ⟨fun _ => T0, ?_⟩
              try simp only [Act.put, List.getElem_toArray, List.getElem_cons_zero, List.getElem_cons_succ, List.setIfInBounds_toArray, List.set_cons_zero, List.set_cons_succ]
              refine wpAnyG_all (rs := [5]) (by kernel_rfl) (by simp) ?_
              intro i hi
              simp only [List.mem_cons, List.not_mem_nil, or_false] at hi
              subst hi
              refine wpOp_now rfl rfl ?_
              go_simp
              have T1 : (X3.alloc (.cells #[.int .i64 C, .int .i64 0] 79)).cell? ⟨w.heap.size + 2, 0, none⟩ = some (.slice ol L.length cl) := HZZ.out.1.1.cell 0
              refine ⟨fun _ => T1, ?_⟩
              try simp only [Act.put, List.getElem_toArray, List.getElem_cons_zero, List.getElem_cons_succ, List.setIfInBounds_toArray, List.set_cons_zero, List.set_cons_succ]
              refine wpAnyG_all (rs := [6]) (by kernel_rfl) (by simp) ?_
              intro i hi6
              simp only [List.mem_cons, List.not_mem_nil, or_false] at hi6
              subst hi6
              refine wpOp_now rfl rfl ?_
              refine opwp_append _ _ 22 rfl (w.heap.size + 4) 79 j0 (.agg #[.int .i64 0, .int .i64 0]) 2 16 Try.underlying22 hj hy0 hy1 hy2 rfl (by decide) _ _ _ rfl HZZ.out.1.2.1 ⟨X3.heap.size, 0, none⟩ 1 1 [.int .i64 C, .int .i64 0] rfl rfl (World.news_of_block (cs := #[.int .i64 C, .int .i64 0]) (t := 79) (fr := (0, 0)) HNW.out) (fun x hx => by simp at hx; rcases hx with rfl | rfl <;> rfl) (by show L.length + 1 ≤ maxLen; unfold maxLen; omega) (by show (L.length + 1) * 16 ≤ _; omega) (by simp; omega) ?_
              intro v3 w3 hown3 hg3
              have k3 := HZZ.out.1.1.kept hg3 (fun e => by have := (HZZ.out.1.2.1.lt _ e.symm).1; omega)
              have k30 : w3.cell? ⟨w.heap.size + 2, 0, none⟩ = some (.slice ol L.length cl) := k3.cell 0
              have k31 := k3.frozen 0
              have hS3 := SchB.putL (L' := L ++ [⟨C, 0⟩]) HZZ.out.1 (by omega) hg3 (by rw [List.flatMap_append]; exact hown3) (by simp)
              have hR3 := (HZZ.out.2.kept hg3 (fun r e => by have := (HZZ.out.1.2.1.lt _ e).1; omega)).kept (grownBy_setCell w3 (w.heap.size + 2) 0 v3) (fun r e => by cases e; omega)
              have HW3 := Lib.hid (And.intro hR3 hS3)
              obtain ⟨o3, c3, rfl, _⟩ := own_slice hown3
              clear k3 hS3 hR3 hown3 hg3
              refine ⟨fun _ => k30, ?_⟩
              try simp only [Act.put, List.getElem_toArray, List.getElem_cons_zero, List.getElem_cons_succ, List.setIfInBounds_toArray, List.set_cons_zero, List.set_cons_succ]
              refine wpAnyG_all (rs := [7]) (by kernel_rfl) (by simp) ?_
              intro i hi
              simp only [List.mem_cons, List.not_mem_nil, or_false] at hi
              subst hi
              refine wpOp_now rfl rfl ?_
              go_simp
              refine ⟨fun _ => k30, ?_⟩
              try simp only [Act.put, List.getElem_toArray, List.getElem_cons_zero, List.getElem_cons_succ, List.setIfInBounds_toArray, List.set_cons_zero, List.set_cons_succ]
              refine wpAnyG_all (rs := [8]) (by kernel_rfl) (by simp) ?_
              intro i hi
              simp only [List.mem_cons, List.not_mem_nil, or_false] at hi
              subst hi
              refine wpOp_now rfl rfl ?_
              go_simp
              refine ⟨fun h => (nomatch (show (false : Bool) = true from h)), ?_⟩
              try simp only [Act.put, List.getElem_toArray, List.getElem_cons_zero, List.getElem_cons_succ, List.setIfInBounds_toArray, List.set_cons_zero, List.set_cons_succ]
              refine wpAnyG_done (by kernel_rfl) ?_ _
              refine NoPanic.normal ?_

              go_wp2
              rw [Exit.noGoto_exit]
              go_wp2
              have HEND := Lib.hid (rd_next HRUN.out HE.out HM1.out.2.2 (HST.out _ _ HYY.out.2.2.1 HYY.out.2.2.2) HM.out hdw.2 ⟨HW3.out.1, _, _, HW3.out.2⟩)
              go_roundw
              case rel => exact HEND.out.1
              case measure => exact HEND.out.2
          | false =>
            as_aux_lemma =>
              have d0 : decide (97 ≤ ((r : Int) : Int)) = false := decide_eq_false (by omega)
              have d1 : decide (65 ≤ ((r : Int) : Int)) = true := decide_eq_true (by omega)
              have d2 : decide ((r : Int) ≤ 90) = true := decide_eq_true (by omega)
              have e88 : ((r : Int) == 88) = false := by rw [beq_eq_false_iff_ne]; omega
              have e88b : ((r : Int) != 88) = true := by rw [bne_iff_ne]; omega
              by_cases c5 : L.length = 512
              · have e512 : ((L.length : Int) == 512) = true := by rw [c5]; rfl
                as_aux_lemma =>
                  have HZ := Lib.hid ((HRUN.out.1 3 (err_512 rfl hl c5) (by decide)))
                  clear HRUN
                  clear c0 hl c5
                  go_wp2
                  refine wp_scope_once fun J hJ => ?_
                  have HJ := Lib.hid hJ
                  clear hJ
                  go_wp2
                  go_step3
                  show J _ _ _
                  refine HJ.out _ _ _ _ rfl ?_
                  go_wp2
                  obtain ⟨q0, q1, q2, q3, qB⟩ := endW_all HM1.out.1 (.slice none 0 0) (.slice none 0 0) (.int .i64 3) (.int .i64 pos)
                  obtain ⟨F, hF⟩ : ∃ F, endW P w.heap.size (.slice none 0 0) (.slice none 0 0) (.int .i64 3) (.int .i64 pos) = F := ⟨_, rfl⟩
                  rw [hF] at q0 q1 q2 q3 qB
                  rw [show ((((P.setCell ⟨w.heap.size, 0, none⟩ (.slice none 0 0)).setCell ⟨w.heap.size, 1, none⟩ (.slice none 0 0)).setCell ⟨w.heap.size + 1, 0, none⟩ (.int .i64 3)).setCell ⟨w.heap.size + 1, 1, none⟩ (.int .i64 pos)) = F from hF]
                  clear hF
                  exact bodyPost_ret (v := .tuple #[.agg #[.slice none 0 0, .slice none 0 0], .agg #[.int .i64 3, .int .i64 pos]]) (by simp [results, Try.f17, go_sem, q0, q1, q2, q3]) rfl (ReadPost.bad HZ.out qB)
              have e512 : ((L.length : Int) == 512) = false := by rw [beq_eq_false_iff_ne]; omega
              have e513 : (L.length == 512) = false := by rw [beq_eq_false_iff_ne]; omega
              have HE := Lib.hid (ok_let (st := ⟨L, S, false, false⟩) rfl hl c5)
              have hlen := HM1.out.2.2
              have hn5 : L.length ≤ 511 := by have h1 : L.length ≤ 512 := hlen.1; omega
              have hn6 : S.length ≤ 512 := by have h1 : L.length ≤ 512 := hlen.1; have h2 : S.length ≤ L.length := hlen.2.2.2.1; omega
              have hPs : w.heap.size + 4 ≤ P.heap.size := by have h1 : w.heap.size + 3 < P.heap.size := (Array.getElem?_eq_some_iff.1 HM1.out.1.1).1; omega
              obtain ⟨C, hC⟩ : ∃ C, clsL (low r) = C := ⟨_, rfl⟩
              have cC := fun W => class_any (low r) (by unfold low; split <;> omega) (by unfold low; split <;> omega) W
              rw [hC] at cC
              rw [show ((low r : Nat) : Int) = (r : Int) + 32 by unfold low; rw [if_pos (by omega)]; rfl] at cC
              have hst : ∀ (mS : Nat) (y : Int), S.length = mS + 1 → S[mS]? = some y → nextR ⟨L, S, false, false⟩ r = ⟨L ++ [⟨C, 0⟩], S.set mS (y + 1), true, false⟩ := fun mS y h1 h2 => by
                skip
                skip
                skip
                skip
                unfold nextR
                rw [if_neg (by simp), if_neg c32, hC, show decide (r ≤ 90) = true from decide_eq_true (by omega)]
                simp [show bump S = S.set mS (y + 1) by unfold bump; rw [List.getLast?_eq_getElem?, h1, Nat.add_sub_cancel, h2]; rfl]
              have HST := Lib.hid hst
              obtain ⟨mS, hTl⟩ : ∃ mS, S.length = mS + 1 := ⟨S.length - 1, by have h1 : 0 < S.length := List.length_pos_iff.2 (hlen.2.2.1 rfl); omega⟩
              obtain ⟨gS, rfl⟩ := HO.out.2 (show 0 < S.length by omega)
              obtain ⟨y, hy⟩ : ∃ y, S[mS]? = some y := ⟨_, List.getElem?_eq_getElem (by omega)⟩
              have hyb := hlen.2.2.2.2 y (List.mem_of_getElem? hy)
              have hy0' : 0 ≤ y := hyb.1
              have hy5 : y ≤ 512 := by have h1 : y ≤ (L.length : Int) := hyb.2; omega
              have hRX := HM1.out.1
              have hSX : SchB P (w.heap.size + 2) (w.heap.size + 4) (.slice ol L.length cl) (.slice (some ⟨gS, 0, none⟩) (mS + 1) cs) L S := hTl ▸ HM1.out.2.1
              have hmb : mS ≤ 511 := by omega
              clear hlen c5 c0 hst hC hl hyb
              rw [hTl] at x1
              go_wp2
              refine wp_scope_once fun J hJ => ?_
              have HJ := Lib.hid hJ
              clear hJ
              go_wp2
              go_step3
              show J _ _ _
              refine HJ.out _ _ _ _ rfl ?_
              go_upto_region 17 with (fail)
              obtain ⟨X, rfl⟩ : ∃ X, X = P := ⟨_, rfl⟩
              obtain ⟨cS, rfl⟩ : ∃ cS, cS = cs := ⟨_, rfl⟩
              obtain ⟨T, rfl⟩ : ∃ T, T = S := ⟨_, rfl⟩
              have t0 : X.cell? ⟨w.heap.size + 2, 0, none⟩ = some (.slice ol L.length cl) := hSX.1.cell 0
              have t1 : X.cell? ⟨w.heap.size + 2, 1, none⟩ = some (.slice (some ⟨gS, 0, none⟩) (mS + 1) cS) := hSX.1.cell 1
              have hmS : mS < T.length := by omega
              have hoX : X.ownsRow (w.heap.size + 4) 3 1 (.slice (some ⟨gS, 0, none⟩) (mS + 1) cS) (mS + 1) (T.flatMap encI) := by have h := hSX.2.2; rwa [hTl] at h
              have t2 : X.cell? ⟨gS, mS, none⟩ = some (.int .i64 y) := (hoX.cellAt mS (by omega)).trans (by have := fl_get (enc := encI) encI_len hy (j := 0) (by decide); simpa [encI] using this)
              have t3 : X.frozen? ⟨gS, mS, none⟩ = false := own_freeK hoX mS
              have hgS := (hSX.2.2.lt gS rfl).1
              have hSY := hSX.setS (u := .int .i64 (y + 1)) (by omega) hmS (by simp) (encI_set hmS (y + 1))
              have hRY := hRX.kept (grownBy_setCell X gS mS (.int .i64 (y + 1))) (fun r e => by cases e; omega)
              obtain ⟨Y, hY⟩ : ∃ Y, X.setCell ⟨gS, mS, none⟩ (.int .i64 (y + 1)) = Y := ⟨_, rfl⟩
              rw [hY] at hSY hRY
              have s0 : Y.cell? ⟨w.heap.size + 2, 0, none⟩ = some (.slice ol L.length cl) := hSY.1.cell 0
              have sf0 := hSY.1.frozen 0
              have HYY := Lib.hid (And.intro hSY (And.intro hRY (And.intro hTl hy)))
              clear hSX hRX hmS hgS hSY hRY hTl hy hoX
              go_wp2
              clear hY t0 t1 t2 t3
              have hYs : w.heap.size + 4 ≤ Y.heap.size := by have h1 : w.heap.size + 3 < Y.heap.size := (Array.getElem?_eq_some_iff.1 HYY.out.2.1.1).1; omega
              refine wp_region_noPanic ?_
              refine wp_region_g (S := untilG [8] (fun W => W.cell? ⟨w.heap.size + 2, 0, none⟩ = some (.slice ol L.length cl))) (by kernel_rfl) ?_
              obtain ⟨Z, hZ⟩ : ∃ Z, Y.drew = Z := ⟨_, rfl⟩
              have T0 : Z.cell? ⟨w.heap.size + 2, 0, none⟩ = some (.slice ol L.length cl) := hZ ▸ s0
              have hZs : w.heap.size + 4 ≤ Z.heap.size := hZ ▸ hYs
              have hSZ := HYY.out.1.drew
              have hRZ : RdB s w (pos + W1) Y.drew := ⟨HYY.out.2.1.1, HYY.out.2.1.2.1.drew, HYY.out.2.1.2.2.1, HYY.out.2.1.2.2.2⟩
              rw [hZ] at hSZ hRZ ⊢
              have HZZ := Lib.hid (And.intro (hSZ.alloc (.cells #[.int .i64 C, .int .i64 0] 79)) (hRZ.kept (World.grownBy_alloc Z (.cells #[.int .i64 C, .int .i64 0] 79) none) (by simp)))
              have HNW := Lib.hid (World.alloc_heap_new Z (.cells #[.int .i64 C, .int .i64 0] 79))
              clear hZ s0 sf0 hSZ hRZ hYs
              refine wpAnyG_take [0, 1, 6] (i := 0) (v := (.pointer (some ⟨w.heap.size + 1 + 1, 0, none⟩))) rfl (by kernel_rfl) (by kernel_rfl) (by kernel_rfl) (by kernel_rfl) (by kernel_rfl) (by kernel_rfl) (by kernel_rfl) (by kernel_rfl) (fun _ _ _ h => h) (Or.inl ⟨by rfl, ?hy⟩) T0 ?_
              case hy =>
                intro X hX
                go_simp
              try simp only [Act.put, List.getElem_toArray, List.getElem_cons_zero, List.getElem_cons_succ, List.setIfInBounds_toArray, List.set_cons_zero, List.set_cons_succ]
              refine wpAnyG_take [1, 6] (i := 1) (v := (.slice ol L.length cl)) rfl (by kernel_rfl) (by kernel_rfl) (by kernel_rfl) (by kernel_rfl) (by kernel_rfl) (by kernel_rfl) (by kernel_rfl) (by kernel_rfl) (fun _ _ _ h => h) (Or.inl ⟨by rfl, ?hy⟩) T0 ?_
              case hy =>
                intro X hX
                go_simp
              try simp only [Act.put, List.getElem_toArray, List.getElem_cons_zero, List.getElem_cons_succ, List.setIfInBounds_toArray, List.set_cons_zero, List.set_cons_succ]
              refine wpAnyG_take [2, 3, 4, 5, 6] (i := 2) (v := (.int .i32 ((r : Int) + 32))) rfl (by kernel_rfl) (by kernel_rfl) (by kernel_rfl) (by kernel_rfl) (by kernel_rfl) (by kernel_rfl) (by kernel_rfl) (by kernel_rfl) (fun _ _ _ h => h) (Or.inl ⟨by rfl, ?hy⟩) T0 ?_
              case hy =>
                intro X hX
                go_simp
              try simp only [Act.put, List.getElem_toArray, List.getElem_cons_zero, List.getElem_cons_succ, List.setIfInBounds_toArray, List.set_cons_zero, List.set_cons_succ]
              refine wpAnyG_all (rs := [3]) (by kernel_rfl) (by simp) ?_
              intro i hi
              simp only [List.mem_cons, List.not_mem_nil, or_false] at hi
              subst hi
              refine wpOp_now rfl rfl ?_
              go_simp
              refine (cC _).mono ?_
              rintro e X3 ⟨rfl, hX3⟩
              subst hX3
              refine ⟨fun _ => T0, ?_⟩
              try simp only [Act.put, List.getElem_toArray, List.getElem_cons_zero, List.getElem_cons_succ, List.setIfInBounds_toArray, List.set_cons_zero, List.set_cons_succ]
              refine wpAnyG_all (rs := [4]) (by kernel_rfl) (by simp) ?_
              intro i hi
              simp only [List.mem_cons, List.not_mem_nil, or_false] at hi
              subst hi
              refine wpOp_now rfl rfl ?_
              go_simp
              refine ⟨fun _ => T0, ?_⟩
              try simp only [Act.put, List.getElem_toArray, List.getElem_cons_zero, List.getElem_cons_succ, List.setIfInBounds_toArray, List.set_cons_zero, List.set_cons_succ]
              refine wpAnyG_all (rs := [5]) (by kernel_rfl) (by simp) ?_
              intro i hi
              simp only [List.mem_cons, List.not_mem_nil, or_false] at hi
              subst hi
              refine wpOp_now rfl rfl ?_
              go_simp
              have T1 : (X3.alloc (.cells #[.int .i64 C, .int .i64 0] 79)).cell? ⟨w.heap.size + 2, 0, none⟩ = some (.slice ol L.length cl) := HZZ.out.1.1.cell 0
              refine ⟨fun _ => T1, ?_⟩
              try simp only [Act.put, List.getElem_toArray, List.getElem_cons_zero, List.getElem_cons_succ, List.setIfInBounds_toArray, List.set_cons_zero, List.set_cons_succ]
              refine wpAnyG_all (rs := [6]) (by kernel_rfl) (by simp) ?_
              intro i hi6
              simp only [List.mem_cons, List.not_mem_nil, or_false] at hi6
              subst hi6
              refine wpOp_now rfl rfl ?_
              refine opwp_append _ _ 22 rfl (w.heap.size + 4) 79 j0 (.agg #[.int .i64 0, .int .i64 0]) 2 16 Try.underlying22 hj hy0 hy1 hy2 rfl (by decide) _ _ _ rfl HZZ.out.1.2.1 ⟨X3.heap.size, 0, none⟩ 1 1 [.int .i64 C, .int .i64 0] rfl rfl (World.news_of_block (cs := #[.int .i64 C, .int .i64 0]) (t := 79) (fr := (0, 0)) HNW.out) (fun x hx => by simp at hx; rcases hx with rfl | rfl <;> rfl) (by show L.length + 1 ≤ maxLen; unfold maxLen; omega) (by show (L.length + 1) * 16 ≤ _; omega) (by simp; omega) ?_
              intro v3 w3 hown3 hg3
              have k3 := HZZ.out.1.1.kept hg3 (fun e => by have := (HZZ.out.1.2.1.lt _ e.symm).1; omega)
              have k30 : w3.cell? ⟨w.heap.size + 2, 0, none⟩ = some (.slice ol L.length cl) := k3.cell 0
              have k31 := k3.frozen 0
              have hS3 := SchB.putL (L' := L ++ [⟨C, 0⟩]) HZZ.out.1 (by omega) hg3 (by rw [List.flatMap_append]; exact hown3) (by simp)
              have hR3 := (HZZ.out.2.kept hg3 (fun r e => by have := (HZZ.out.1.2.1.lt _ e).1; omega)).kept (grownBy_setCell w3 (w.heap.size + 2) 0 v3) (fun r e => by cases e; omega)
              have HW3 := Lib.hid (And.intro hR3 hS3)
              obtain ⟨o3, c3, rfl, _⟩ := own_slice hown3
              clear k3 hS3 hR3 hown3 hg3
              refine ⟨fun _ => k30, ?_⟩
              try simp only [Act.put, List.getElem_toArray, List.getElem_cons_zero, List.getElem_cons_succ, List.setIfInBounds_toArray, List.set_cons_zero, List.set_cons_succ]
              refine wpAnyG_all (rs := [7]) (by kernel_rfl) (by simp) ?_
              intro i hi
              simp only [List.mem_cons, List.not_mem_nil, or_false] at hi
              subst hi
              refine wpOp_now rfl rfl ?_
              go_simp
              refine ⟨fun _ => k30, ?_⟩
              try simp only [Act.put, List.getElem_toArray, List.getElem_cons_zero, List.getElem_cons_succ, List.setIfInBounds_toArray, List.set_cons_zero, List.set_cons_succ]
              refine wpAnyG_all (rs := [8]) (by kernel_rfl) (by simp) ?_
              intro i hi
              simp only [List.mem_cons, List.not_mem_nil, or_false] at hi
              subst hi
              refine wpOp_now rfl rfl ?_
              go_simp
              refine ⟨fun h => (nomatch (show (false : Bool) = true from h)), ?_⟩
              try simp only [Act.put, List.getElem_toArray, List.getElem_cons_zero, List.getElem_cons_succ, List.setIfInBounds_toArray, List.set_cons_zero, List.set_cons_succ]
              refine wpAnyG_done (by kernel_rfl) ?_ _
              refine NoPanic.normal ?_

              go_wp2
              rw [Exit.noGoto_exit]
              go_wp2
              have HEND := Lib.hid (rd_next HRUN.out HE.out HM1.out.2.2 (HST.out _ _ HYY.out.2.2.1 HYY.out.2.2.2) HM.out hdw.2 ⟨HW3.out.1, _, _, HW3.out.2⟩)
              go_roundw
              case rel => exact HEND.out.1
              case measure => exact HEND.out.2
      -- ENDCASES
    · obtain rfl : pos = s.size := by omega
      have hnx : ∀ ty, (Instr.next (.pointer (some ⟨w.heap.size + 3, 0, none⟩)) true ty).run Try.prog wr = _ := fun ty => Lib.run_next_end_at wr (w.heap.size + 3) s s.size ty hM.1.1 (by omega)
      rw [Nat.sub_self] at hrun
      have hrn : (if (st.g || (st.a && !decide (s.size = 0))) = true then ((⟨[], []⟩ : Sc), (160 : Int), (s.size : Int)) else (⟨st.L, st.S⟩, 0, 0)) = R := hrun
      obtain ⟨hM4, vl, vs, hS⟩ := hM
      obtain ⟨ol, cl, rfl, hol⟩ := own_slice hS.2.1
      obtain ⟨os, cs, rfl, hos⟩ := own_slice hS.2.2
      have x0 := hS.1.cell 0
      have x1 := hS.1.cell 1
      have y0 := hM4.2.2.1.cell 0
      have y1 := hM4.2.2.1.cell 1
      have yf0 := hM4.2.2.1.frozen 0
      have yf1 := hM4.2.2.1.frozen 1
      have z0 := hM4.2.2.2.cell 0
      have z1 := hM4.2.2.2.cell 1
      have zf0 := hM4.2.2.2.frozen 0
      have zf1 := hM4.2.2.2.frozen 1
      simp only [List.getElem?_toArray, List.getElem?_cons_succ, List.getElem?_cons_zero] at x0 x1 y0 y1 z0 z1
      have HM1 := Lib.hid (And.intro hM4 hS)
      clear hrun hM4 hS hok hol hos hps
      obtain ⟨L, S, g, a⟩ := st
      simp only at x0 x1 hrn ⊢
      have g3 : s.size = 0 → s.toList = [] := fun h => by rw [ByteArray.toList_eq]; exact List.eq_nil_of_length_eq_zero (by rw [Array.length_toList]; exact h)
      have g4 : s.size ≠ 0 → s.toList ≠ [] := fun h h2 => h (by rw [ByteArray.toList_eq] at h2; have := congrArg List.length h2; rw [Array.length_toList] at this; exact this)
      have HRN := Lib.hid hrn
      have HG := Lib.hid (And.intro g3 g4)
      clear hrn g3 g4
      cases g with
      | true =>
        have HZ := Lib.hid (show R = (⟨[], []⟩, 160, (s.size : Int)) from HRN.out.symm)
        go_wp2
        obtain ⟨q0, q1, q2, q3, qB⟩ := endW_all HM1.out.1 (.slice none 0 0) (.slice none 0 0) (.int .i64 160) (.int .i64 s.size)
        have HQ := Lib.hid (endW_grown wr w.heap.size (.slice none 0 0) (.slice none 0 0) (.int .i64 160) (.int .i64 s.size))
        obtain ⟨F, hF⟩ : ∃ F, endW wr w.heap.size (.slice none 0 0) (.slice none 0 0) (.int .i64 160) (.int .i64 s.size) = F := ⟨_, rfl⟩
        rw [hF] at q0 q1 q2 q3 qB HQ
        rw [show ((((wr.setCell ⟨w.heap.size, 0, none⟩ (.slice none 0 0)).setCell ⟨w.heap.size, 1, none⟩ (.slice none 0 0)).setCell ⟨w.heap.size + 1, 0, none⟩ (.int .i64 160)).setCell ⟨w.heap.size + 1, 1, none⟩ (.int .i64 s.size)) = F from hF]
        clear hF
        exact bodyPost_ret (v := .tuple #[.agg #[(.slice none 0 0), (.slice none 0 0)], .agg #[.int .i64 160, .int .i64 s.size]]) (by simp [results, Try.f17, go_sem, q0, q1, q2, q3]) rfl (ReadPost.bad HZ.out qB)
      | false =>
        cases a with
        | false =>
          have HZ := Lib.hid (show R = (⟨L, S⟩, 0, 0) from HRN.out.symm)
          go_wp2
          obtain ⟨q0, q1, q2, q3, qB⟩ := endW_all HM1.out.1 (.slice ol L.length cl) (.slice os S.length cs) (.int .i64 0) (.int .i64 0)
          have HQ := Lib.hid (endW_grown wr w.heap.size (.slice ol L.length cl) (.slice os S.length cs) (.int .i64 0) (.int .i64 0))
          obtain ⟨F, hF⟩ : ∃ F, endW wr w.heap.size (.slice ol L.length cl) (.slice os S.length cs) (.int .i64 0) (.int .i64 0) = F := ⟨_, rfl⟩
          rw [hF] at q0 q1 q2 q3 qB HQ
          rw [show ((((wr.setCell ⟨w.heap.size, 0, none⟩ (.slice ol L.length cl)).setCell ⟨w.heap.size, 1, none⟩ (.slice os S.length cs)).setCell ⟨w.heap.size + 1, 0, none⟩ (.int .i64 0)).setCell ⟨w.heap.size + 1, 1, none⟩ (.int .i64 0)) = F from hF]
          clear hF
          exact bodyPost_ret (v := .tuple #[.agg #[(.slice ol L.length cl), (.slice os S.length cs)], .agg #[.int .i64 0, .int .i64 0]]) (by simp [results, Try.f17, go_sem, q0, q1, q2, q3]) rfl (⟨_, _, by rw [HZ.out], by rw [HZ.out]; exact HQ.out _ _ _ _ _ _ HM1.out.2.2.1 (by omega), by rw [HZ.out]; exact HQ.out _ _ _ _ _ _ HM1.out.2.2.2 (by omega), qB⟩)
        | true =>
          by_cases h0 : s.size = 0
          · have HZ := Lib.hid (show R = (⟨L, S⟩, 0, 0) from HRN.out.symm.trans (by rw [h0]; rfl))
            have g5 := HG.out.1 h0
            have g6 : s.toList.isEmpty = true := by rw [g5]; rfl
            clear h0
            go_wp2
            obtain ⟨q0, q1, q2, q3, qB⟩ := endW_all HM1.out.1 (.slice ol L.length cl) (.slice os S.length cs) (.int .i64 0) (.int .i64 0)
            have HQ := Lib.hid (endW_grown wr w.heap.size (.slice ol L.length cl) (.slice os S.length cs) (.int .i64 0) (.int .i64 0))
            obtain ⟨F, hF⟩ : ∃ F, endW wr w.heap.size (.slice ol L.length cl) (.slice os S.length cs) (.int .i64 0) (.int .i64 0) = F := ⟨_, rfl⟩
            rw [hF] at q0 q1 q2 q3 qB HQ
            rw [show ((((wr.setCell ⟨w.heap.size, 0, none⟩ (.slice ol L.length cl)).setCell ⟨w.heap.size, 1, none⟩ (.slice os S.length cs)).setCell ⟨w.heap.size + 1, 0, none⟩ (.int .i64 0)).setCell ⟨w.heap.size + 1, 1, none⟩ (.int .i64 0)) = F from hF]
            clear hF
            exact bodyPost_ret (v := .tuple #[.agg #[(.slice ol L.length cl), (.slice os S.length cs)], .agg #[.int .i64 0, .int .i64 0]]) (by simp [results, Try.f17, go_sem, q0, q1, q2, q3]) rfl (⟨_, _, by rw [HZ.out], by rw [HZ.out]; exact HQ.out _ _ _ _ _ _ HM1.out.2.2.1 (by omega), by rw [HZ.out]; exact HQ.out _ _ _ _ _ _ HM1.out.2.2.2 (by omega), qB⟩)
          · have HZ := Lib.hid (show R = (⟨[], []⟩, 160, (s.size : Int)) from HRN.out.symm.trans (by rw [decide_eq_false h0]; rfl))
            have g5 := HG.out.2 h0
            have g6 : s.toList.isEmpty = false := by rw [List.isEmpty_eq_false_iff]; exact g5
            clear h0
            go_wp2
            obtain ⟨q0, q1, q2, q3, qB⟩ := endW_all HM1.out.1 (.slice none 0 0) (.slice none 0 0) (.int .i64 160) (.int .i64 s.size)
            have HQ := Lib.hid (endW_grown wr w.heap.size (.slice none 0 0) (.slice none 0 0) (.int .i64 160) (.int .i64 s.size))
            obtain ⟨F, hF⟩ : ∃ F, endW wr w.heap.size (.slice none 0 0) (.slice none 0 0) (.int .i64 160) (.int .i64 s.size) = F := ⟨_, rfl⟩
            rw [hF] at q0 q1 q2 q3 qB HQ
            rw [show ((((wr.setCell ⟨w.heap.size, 0, none⟩ (.slice none 0 0)).setCell ⟨w.heap.size, 1, none⟩ (.slice none 0 0)).setCell ⟨w.heap.size + 1, 0, none⟩ (.int .i64 160)).setCell ⟨w.heap.size + 1, 1, none⟩ (.int .i64 s.size)) = F from hF]
            clear hF
            exact bodyPost_ret (v := .tuple #[.agg #[(.slice none 0 0), (.slice none 0 0)], .agg #[.int .i64 160, .int .i64 s.size]]) (by simp [results, Try.f17, go_sem, q0, q1, q2, q3]) rfl (ReadPost.bad HZ.out qB)
end Go.Proofs.Ytdcmkiggnmajgaa
