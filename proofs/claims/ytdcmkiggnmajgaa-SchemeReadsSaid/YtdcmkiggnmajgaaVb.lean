/- Stage 16: Read, the document's: the walk. -/
import Derived.Test.YtdcmkiggnmajgaaVa
namespace Go.Proofs.Ytdcmkiggnmajgaa
set_option linter.unusedVariables false
set_option linter.unusedSimpArgs false
open Go Go.RowKit Go.Shelf
set_option maxRecDepth 100000

def RfB (w W : World) : Prop := Below w.heap.size w W ∧ Blk W w.heap.size #[.slice none 0 0, .slice none 0 0] 25 ∧ Blk W (w.heap.size + 1) #[.int .i64 0, .int .i64 0] 32
theorem RfB.kept {w W W' : World} {row : Option Nat} (h : RfB w W) (hg : W.grownBy W' row) (hr : ∀ r, row = some r → w.heap.size + 2 ≤ r) : RfB w W' := by
  have hz := h.2.2.lt
  exact ⟨h.1.grown hg (by omega) (fun r e => by have := hr r e; omega), h.2.1.kept hg (fun e => by have := hr _ e.symm; omega), h.2.2.kept hg (fun e => by have := hr _ e.symm; omega)⟩
theorem RfB.below {w W W' : World} (h : RfB w W) (hb : Below W.heap.size W W') : RfB w W' := h.kept (grown_none hb) (by simp)
def endF (P : World) (b : Nat) (vl vs x y : Value) : World := (((P.setCell ⟨b, 0, none⟩ vl).setCell ⟨b, 1, none⟩ vs).setCell ⟨b + 1, 0, none⟩ x).setCell ⟨b + 1, 1, none⟩ y
theorem endF_all {w P : World} (h : RfB w P) (vl vs x y : Value) :
    (endF P w.heap.size vl vs x y).cell? ⟨w.heap.size, 0, none⟩ = some vl ∧ (endF P w.heap.size vl vs x y).cell? ⟨w.heap.size, 1, none⟩ = some vs ∧ (endF P w.heap.size vl vs x y).cell? ⟨w.heap.size + 1, 0, none⟩ = some x ∧ (endF P w.heap.size vl vs x y).cell? ⟨w.heap.size + 1, 1, none⟩ = some y ∧ Below w.heap.size w (endF P w.heap.size vl vs x y) := by
  have h1 := (((h.2.1.set 0 vl).set 1 vs).other (B' := w.heap.size + 1) (by omega) 0 x).other (B' := w.heap.size + 1) (by omega) 1 y
  have h2 := (((h.2.2.other (B' := w.heap.size) (by omega) 0 vl).other (B' := w.heap.size) (by omega) 1 vs).set 0 x).set 1 y
  exact ⟨h1.cell 0, h1.cell 1, h2.cell 0, h2.cell 1, (((h.1.setCell (p := ⟨w.heap.size, 0, none⟩) (Nat.le_refl _) vl).setCell (p := ⟨w.heap.size, 1, none⟩) (Nat.le_refl _) vs).setCell (p := ⟨w.heap.size + 1, 0, none⟩) (Nat.le_succ _) x).setCell (p := ⟨w.heap.size + 1, 1, none⟩) (Nat.le_succ _) y⟩
theorem endF_own (P : World) (b : Nat) (vl vs x y : Value) : ∀ (base : Nat) (e : TypeId) (sz n : Nat) (v : Value) (xs : List Value), P.ownsRow base e sz v n xs → b + 2 ≤ base → (endF P b vl vs x y).ownsRow b e sz v n xs :=
  fun _ _ _ _ _ _ h hb => own_base (own_low (own_low (own_low (own_low h (by omega) 0 vl) (by omega) 1 vs) (by omega) 0 x) (by omega) 1 y) (by omega)
def RefPost (R : Sc × Int × Int) (w : World) (e : Ending) (w' : World) : Prop := ∃ vl vs, e = .returned (.tuple #[.agg #[vl, vs], .agg #[.int .i64 R.2.1, .int .i64 R.2.2]]) ∧
  w'.ownsRow w.heap.size 79 2 vl R.1.L.length (R.1.L.flatMap encR) ∧ w'.ownsRow w.heap.size 3 1 vs R.1.S.length (R.1.S.flatMap encI) ∧ Below w.heap.size w w'
theorem RefPost.bad {R : Sc × Int × Int} {w W : World} {e n : Int} (h : R = (⟨[], []⟩, e, n)) (hb : Below w.heap.size w W) : RefPost R w (.returned (.tuple #[.agg #[.slice none 0 0, .slice none 0 0], .agg #[.int .i64 e, .int .i64 n]])) W := by
  subst h
  exact ⟨_, _, rfl, World.ownsRow_nil _ _ _ _, World.ownsRow_nil _ _ _ _, hb⟩
/-- At a place: no great letter is pending; a blank stands ahead, or nothing. -/
def RfI (R : Sc × Int × Int) (s : ByteArray) (w : World) (i : Value) (W : World) : Prop := ∃ (L : List Rh) (S : List Int) (a : Bool) (pos : Nat), i = .int .i64 pos ∧ pos ≤ s.size ∧ a = (pos == 0 || bt s (pos - 1) == 32) ∧ StOK ⟨L, S, false, a⟩ ∧ runR s (s.size - pos) pos ⟨L, S, false, a⟩ = R ∧
  RfB w W ∧ ∃ vl vs, SchB W (w.heap.size + 2) (w.heap.size + 3) vl vs L S
theorem errf_n {st : St} {c : Nat} (hg : st.g = false) (h : ¬ (c = 32 ∧ st.a = false)) (hl : isLet c = false) : errR st c = 160 := by unfold errR; rw [if_neg (by rw [hg]; decide), if_neg h, hl]; rfl
theorem okf_sp {st : St} {c : Nat} (hg : st.g = false) (h : c = 32 ∧ st.a = false) : errR st c = 0 := by unfold errR; rw [if_neg (by rw [hg]; decide), if_pos h]
theorem letf_sp {c : Nat} (hl : isLet c = true) : c ≠ 32 := by rintro rfl; cases hl
theorem errf_512 {st : St} {c : Nat} (hg : st.g = false) (hl : isLet c = true) (h : st.L.length = 512) : errR st c = 3 := by unfold errR; rw [if_neg (by rw [hg]; decide), if_neg (fun h => letf_sp hl h.1), hl, if_pos rfl, if_pos h]
theorem okf_let {st : St} {c : Nat} (hg : st.g = false) (hl : isLet c = true) (h : st.L.length ≠ 512) : errR st c = 0 := by unfold errR; rw [if_neg (by rw [hg]; decide), if_neg (fun h => letf_sp hl h.1), hl, if_pos rfl, if_neg h]
theorem nextf_let {L : List Rh} {S : List Int} {a : Bool} {c : Nat} (hl : isLet c = true) : nextR ⟨L, S, false, a⟩ c = ⟨L ++ [⟨clsL (low c), 0⟩], if a then S ++ [1] else bump S, decide (c ≤ 90), false⟩ := by unfold nextR; rw [if_neg (by simp), if_neg (letf_sp hl)]
theorem nextf_dig {L : List Rh} {S : List Int} {a : Bool} {z : Int} {d : Nat} : nextR ⟨L ++ [⟨z, 0⟩], S, true, a⟩ d = ⟨L ++ [⟨z, (d : Int) - 48⟩], S, false, a⟩ := by
  unfold nextR setLast
  rw [if_pos rfl]
  simp
theorem errf_g {st : St} {c : Nat} (hg : st.g = true) (h : ¬ (49 ≤ c ∧ c ≤ 57)) : errR st c = 160 := by unfold errR; rw [if_pos hg, if_neg h]
theorem okf_g {st : St} {c : Nat} (hg : st.g = true) (h : 49 ≤ c ∧ c ≤ 57) : errR st c = 0 := by unfold errR; rw [if_pos hg, if_pos h]

theorem s2_last {L : List Rh} {S : List Int} {a : Bool} (h : StOK ⟨L, S, false, a⟩) : ∃ (mS : Nat) (y : Int), (if a then S ++ [0] else S).length = mS + 1 ∧ (if a then S ++ [0] else S)[mS]? = some y ∧ 0 ≤ y ∧ y ≤ 512 ∧ (if a then S ++ [0] else S).set mS (y + 1) = (if a = true then S ++ [1] else bump S) := by
  have hL : L.length ≤ 512 := h.1
  cases a with
  | true =>
    refine ⟨S.length, 0, by simp, by simp, by omega, by omega, by simp⟩
  | false =>
    have h0 : 0 < S.length := List.length_pos_iff.2 (h.2.2.1 rfl)
    obtain ⟨y, hy⟩ : ∃ y, S[S.length - 1]? = some y := ⟨_, List.getElem?_eq_getElem (by omega)⟩
    have hb := h.2.2.2.2 y (List.mem_of_getElem? hy)
    have hb2 : y ≤ (L.length : Int) := hb.2
    refine ⟨S.length - 1, y, by simp; omega, by simpa using hy, hb.1, by omega, ?_⟩
    simp only [Bool.false_eq_true, if_false]
    unfold bump
    rw [List.getLast?_eq_getElem?, hy]; rfl

set_option maxHeartbeats 16000000 in
theorem refRead_any (s : ByteArray) (hs : s.size ≤ 9223372036854775807) (w : World) :
    Calls Try.prog 28 #[.string s] w (RefPost (readR s) w) := by
  obtain ⟨i0, hi, hz0, hz1, hz2⟩ := info_parts infoInt
  obtain ⟨j0, hj, hy0, hy1, hy2⟩ := info_parts infoRhyme
  by_cases hlong : 65536 < s.size
  · have hR : readR s = (⟨[], []⟩, 3, 65536) := by unfold readR; rw [if_pos hlong]
    obtain ⟨R, hRR⟩ : ∃ R, readR s = R := ⟨_, rfl⟩
    rw [hRR] at hR ⊢
    have HR := Lib.hid hR
    have d1 : decide ((65536 : Int) < (s.size : Int)) = true := decide_eq_true (by omega)
    have d2 : decide (65536 < s.size) = true := decide_eq_true hlong
    clear hR hRR
    go_enter Try.func28, Try.ntmps28
    go_wp2
    exact bodyPost_ret (v := .tuple #[.agg #[.slice none 0 0, .slice none 0 0], .agg #[.int .i64 3, .int .i64 65536]]) (by simp [results, Try.f28, go_sem]) rfl (RefPost.bad HR.out (((Below.refl _ w).alloc (Nat.le_refl _) (.cells #[.slice none 0 0, .slice none 0 0] 25)).alloc (by simp) (.cells #[.int .i64 3, .int .i64 65536] 32)))
  have d1 : decide ((65536 : Int) < (s.size : Int)) = false := decide_eq_false (by omega)
  have d2 : decide (65536 < s.size) = false := decide_eq_false hlong
  have hR : readR s = runR s s.size 0 ⟨[], [], false, true⟩ := by unfold readR; rw [if_neg hlong]
  obtain ⟨R, hRR⟩ : ∃ R, readR s = R := ⟨_, rfl⟩
  rw [hRR] at hR ⊢
  have HR := Lib.hid hR
  clear hR hRR
  go_enter Try.func28, Try.ntmps28
  go_wp2
  go_loopw [5] (RfI R s w) (fun i _ => s.size - (intOf i).toNat)
  case atStart =>
    have a0 := Blk.new w #[.slice none 0 0, .slice none 0 0] 25
    have a1 := Blk.new (w.alloc (.cells #[.slice none 0 0, .slice none 0 0] 25)) #[.int .i64 0, .int .i64 0] 32
    have a2 := Blk.new ((w.alloc (.cells #[.slice none 0 0, .slice none 0 0] 25)).alloc (.cells #[.int .i64 0, .int .i64 0] 32)) #[.slice none 0 0, .slice none 0 0] 25
    simp only [World.size_alloc] at a1 a2
    have hB := (((Below.refl _ w).alloc (Nat.le_refl _) (.cells #[.slice none 0 0, .slice none 0 0] 25)).alloc (by simp) (.cells #[.int .i64 0, .int .i64 0] 32)).alloc (by simp; omega) (.cells #[.slice none 0 0, .slice none 0 0] 25)
    exact ⟨[], [], true, 0, rfl, by omega, rfl, StOK.start, HR.out.symm, ⟨hB, (a0.alloc _).alloc _, a1.alloc _⟩, .slice none 0 0, .slice none 0 0, a2, World.ownsRow_nil _ _ _ _, World.ownsRow_nil _ _ _ _⟩
  case round =>
    obtain ⟨L, S, a, pos, rfl, hps, ha, hok, hrun, hM, vl, vs, hS⟩ := hrel
    obtain ⟨ol, cl, rfl, hol⟩ := own_slice hS.2.1
    obtain ⟨os, cs, rfl, hos⟩ := own_slice hS.2.2
    have x0 : wr.cell? ⟨w.heap.size + 2, 0, none⟩ = some (.slice ol L.length cl) := hS.1.cell 0
    have x1 : wr.cell? ⟨w.heap.size + 2, 1, none⟩ = some (.slice os S.length cs) := hS.1.cell 1
    have xf0 := hS.1.frozen 0
    have xf1 := hS.1.frozen 1
    have HM := Lib.hid (And.intro hM (And.intro hS (And.intro hok ha)))
    have HO := Lib.hid (And.intro hol hos)
    by_cases hlt : pos < s.size
    · have hrn : (∀ e, errR ⟨L, S, false, a⟩ (bt s pos) = e → e ≠ 0 → R = (⟨[], []⟩, e, (pos : Int))) ∧ (errR ⟨L, S, false, a⟩ (bt s pos) = 0 → runR s (s.size - (pos + 1)) (pos + 1) (nextR ⟨L, S, false, a⟩ (bt s pos)) = R) :=
        ⟨fun e he h0 => by rw [← hrun, run_no hlt (by rw [he]; exact h0), he], fun he => by rw [← hrun, run_ok hlt he]⟩
      have hg := bt_get s pos hlt
      have hc256 := bt_lt s pos
      have hL512 : L.length ≤ 512 := hok.1
      have hS512 : S.length ≤ 512 := by have h2 : S.length ≤ L.length := hok.2.2.2.1; omega
      obtain ⟨c, hc⟩ : ∃ c, bt s pos = c := ⟨_, rfl⟩
      rw [hc] at hrn hg hc256
      have HRUN := Lib.hid (And.intro hrn hc)
      clear hrn hc hM hS hok ha hol hos hrun
      by_cases c32 : c = 32
      · have e32 : ((c : Int) == 32) = true := by rw [c32]; rfl
        go_upto_region 9 with (fail)
        go_cut [35] from 16 to 137 (fun bv wx => bv = .bool a ∧ wr = wx)
        case first =>
          have ha := HM.out.2.2.2
          by_cases h0 : pos = 0
          · have e0 : ((pos : Int) == 0) = true := by rw [h0]; rfl
            have hat : a = true := by rw [ha, h0]; rfl
            clear h0 ha
            subst hat
            go_wp2
            go_meet
            exact ⟨rfl, rfl⟩
          · have e0 : ((pos : Int) == 0) = false := by rw [beq_eq_false_iff_ne]; omega
            have hg1 := bt_get s (pos - 1) (by omega)
            have j1 : (0 : Int) ≤ (pos : Int) - 1 := by omega
            have j2 : ((pos : Int) - 1).toNat = pos - 1 := by omega
            have j3 : pos - 1 < s.size := by omega
            have hat : a = (bt s (pos - 1) == 32) := by rw [ha, show (pos == 0) = false from beq_eq_false_iff_ne.2 h0]; rfl
            obtain ⟨b, hb⟩ : ∃ b, bt s (pos - 1) = b := ⟨_, rfl⟩
            rw [hb] at hg1 hat
            clear hb h0 ha
            by_cases h32 : b = 32
            · have e32 : ((b : Int) == 32) = true := by rw [h32]; rfl
              replace hat : a = true := by rw [hat, h32]; rfl
              clear h32
              subst hat
              go_wp2
              go_meet
              exact ⟨rfl, rfl⟩
            · have e32 : ((b : Int) == 32) = false := by rw [beq_eq_false_iff_ne]; omega
              replace hat : a = false := by rw [hat]; exact beq_eq_false_iff_ne.2 h32
              clear h32
              subst hat
              go_wp2
              go_meet
              exact ⟨rfl, rfl⟩
        case rest =>
          obtain ⟨rfl, rfl⟩ := hcut
          cases a with
          | true =>
            as_aux_lemma =>
              have HZ := Lib.hid (HRUN.out.1.1 160 (errf_n rfl (by simp) (by rw [c32]; rfl)) (by decide))
              clear HRUN c32
              go_wp2_with (go_at_call 66; refine (wrong_any _ _ _).mono ?_; rintro e P2 ⟨rfl, hB2⟩; have hR2 := HM.out.1.below hB2; have y0 := hR2.2.1.cell 0; have y1 := hR2.2.1.cell 1; have yf0 := hR2.2.1.frozen 0; have yf1 := hR2.2.1.frozen 1; have z0 := hR2.2.2.cell 0; have z1 := hR2.2.2.cell 1; have zf0 := hR2.2.2.frozen 0; have zf1 := hR2.2.2.frozen 1; simp only [List.getElem?_toArray, List.getElem?_cons_succ, List.getElem?_cons_zero] at y0 y1 z0 z1; have HR2 := Lib.hid hR2; clear hB2 hR2)
              obtain ⟨q0, q1, q2, q3, qB⟩ := endF_all HR2.out (.slice none 0 0) (.slice none 0 0) (.int .i64 160) (.int .i64 pos)
              obtain ⟨F, hF⟩ : ∃ F, endF P2 w.heap.size (.slice none 0 0) (.slice none 0 0) (.int .i64 160) (.int .i64 pos) = F := ⟨_, rfl⟩
              rw [hF] at q0 q1 q2 q3 qB
              rw [show ((((P2.setCell ⟨w.heap.size, 0, none⟩ (.slice none 0 0)).setCell ⟨w.heap.size, 1, none⟩ (.slice none 0 0)).setCell ⟨w.heap.size + 1, 0, none⟩ (.int .i64 160)).setCell ⟨w.heap.size + 1, 1, none⟩ (.int .i64 pos)) = F from hF]
              clear hF
              exact bodyPost_ret (v := .tuple #[.agg #[.slice none 0 0, .slice none 0 0], .agg #[.int .i64 160, .int .i64 pos]]) (by simp [results, Try.f28, go_sem, q0, q1, q2, q3]) rfl (RefPost.bad HZ.out qB)
          | false =>
            have hN : RfI R s w (.int .i64 ((pos : Int) + 1)) wr := by
              have e : nextR ⟨L, S, false, false⟩ c = ⟨L, S, false, true⟩ := by unfold nextR; rw [if_neg (by simp), if_pos c32]
              have h1 := HM.out.2.2.1.next (okf_sp (c := c) rfl ⟨c32, rfl⟩)
              have h2 := HRUN.out.1.2 (okf_sp rfl ⟨c32, rfl⟩)
              rw [e] at h1 h2
              exact ⟨L, S, true, pos + 1, by go_num, by omega, by rw [Nat.add_sub_cancel, HRUN.out.2, c32]; simp, h1, h2, HM.out.1, _, _, HM.out.2.1⟩
            have HN := Lib.hid hN
            clear hN HRUN c32
            go_wp2
            go_roundw
            case rel => exact HN.out
            case measure => simp [intOf]; omega
      have e32 : ((c : Int) == 32) = false := by rw [beq_eq_false_iff_ne]; omega
      obtain ⟨sm, hsm⟩ : ∃ sm, low c = sm := ⟨_, rfl⟩
      obtain ⟨s0, hs0⟩ : ∃ s0, c0 c = s0 := ⟨_, rfl⟩
      have hlook := look_eq hc256
      rw [hsm, hs0] at hlook
      have HLOOK := Lib.hid (And.intro hlook (And.intro hsm hs0))
      clear hlook
      unfold low at hsm
      unfold c0 at hs0
      obtain ⟨X, rfl⟩ : ∃ X, X = wr := ⟨_, rfl⟩
      by_cases hG : 65 ≤ c ∧ c ≤ 90
      · have d3 : decide ((65 : Int) ≤ (c : Int)) = true := decide_eq_true (by omega)
        have d4 : decide ((c : Int) ≤ 90) = true := decide_eq_true (by omega)
        rw [if_pos hG] at hsm
        have hsa : (sm : Int) ≤ (c : Int) - 65 + 97 := by omega
        have hsb : (c : Int) - 65 + 97 ≤ (sm : Int) := by omega
        have u1 : IntKind.u8.wrap ((c : Int) - 65) = (c : Int) - 65 := by unfold IntKind.wrap; simp [IntKind.bits, IntKind.signed]; omega
        have u2 : IntKind.u8.wrap ((c : Int) - 65 + 97) = (c : Int) - 65 + 97 := by unfold IntKind.wrap; simp [IntKind.bits, IntKind.signed]; omega
        have e1 : ((c : Int) == 120) = false := by rw [beq_eq_false_iff_ne]; omega
        rw [if_neg (by omega)] at hs0
        subst hs0
        clear hsm
        go_wp2
        go_loopw [8, 9] (fun cv kv W => ∃ k : Nat, kv = .int .i64 k ∧ k ≤ 25 ∧ cv = .int .i64 (look (-2) sm k) ∧ X = W) (fun _ kv _ => 25 - (intOf kv).toNat)
        case atStart => exact ⟨0, rfl, by omega, rfl, by first | rfl | trivial⟩
        case round =>
          obtain ⟨k, rfl, hk, rfl, rfl⟩ := hrel
          by_cases hk25 : k < 25
          · have hg2 := bt_get LETS k hk25
            obtain ⟨b, hb⟩ : ∃ b, bt LETS k = b := ⟨_, rfl⟩
            rw [hb] at hg2
            have hlk : look (-2) sm (k + 1) = if b = sm then (k : Int) else look (-2) sm k := by rw [← hb]; rfl
            obtain ⟨F0, hF0⟩ : ∃ F, look (-2) sm k = F := ⟨_, rfl⟩
            rw [hF0] at hlk ⊢
            by_cases hbs : b = sm
            · have e5 : ((b : Int) == ((c : Int) - 65 + 97)) = true := by rw [beq_iff_eq]; omega
              have e6 : (b == c) = false := by rw [beq_eq_false_iff_ne]; omega
              rw [if_pos hbs] at hlk
              have HK := Lib.hid hlk
              clear hlk hb hbs hF0
              go_wp2
              go_roundw
              case rel => exact ⟨k + 1, by go_num, by omega, by rw [HK.out], by first | rfl | trivial⟩
              case measure => simp [intOf]; omega
            · have e5 : ((b : Int) == ((c : Int) - 65 + 97)) = false := by rw [beq_eq_false_iff_ne]; omega
              skip
              rw [if_neg hbs] at hlk
              have HK := Lib.hid hlk
              clear hlk hb hbs hF0
              go_wp2
              go_roundw
              case rel => exact ⟨k + 1, by go_num, by omega, by rw [HK.out], by first | rfl | trivial⟩
              case measure => simp [intOf]; omega
          · have hFe : look (-2) sm k = if isLet c = true then clsL sm else -2 := by
              obtain rfl : k = 25 := by omega
              exact HLOOK.out.1
            obtain ⟨F, hF⟩ : ∃ F, look (-2) sm k = F := ⟨_, rfl⟩
            rw [hF] at hFe ⊢
            clear hF hsa hsb
            cases hl : isLet c with
            | false =>
              rw [hl] at hFe
              simp only [Bool.false_eq_true, if_false] at hFe
              subst hFe
              as_aux_lemma =>
                have HZ := Lib.hid (HRUN.out.1.1 160 (errf_n rfl (by simp [c32]) hl) (by decide))
                clear HRUN c32 hl
                go_wp2_with (go_at_call 66; refine (wrong_any _ _ _).mono ?_; rintro e P2 ⟨rfl, hB2⟩; have hR2 := HM.out.1.below hB2; have y0 := hR2.2.1.cell 0; have y1 := hR2.2.1.cell 1; have yf0 := hR2.2.1.frozen 0; have yf1 := hR2.2.1.frozen 1; have z0 := hR2.2.2.cell 0; have z1 := hR2.2.2.cell 1; have zf0 := hR2.2.2.frozen 0; have zf1 := hR2.2.2.frozen 1; simp only [List.getElem?_toArray, List.getElem?_cons_succ, List.getElem?_cons_zero] at y0 y1 z0 z1; have HR2 := Lib.hid hR2; clear hB2 hR2)
                obtain ⟨q0, q1, q2, q3, qB⟩ := endF_all HR2.out (.slice none 0 0) (.slice none 0 0) (.int .i64 160) (.int .i64 pos)
                obtain ⟨F, hF⟩ : ∃ F, endF P2 w.heap.size (.slice none 0 0) (.slice none 0 0) (.int .i64 160) (.int .i64 pos) = F := ⟨_, rfl⟩
                rw [hF] at q0 q1 q2 q3 qB
                rw [show ((((P2.setCell ⟨w.heap.size, 0, none⟩ (.slice none 0 0)).setCell ⟨w.heap.size, 1, none⟩ (.slice none 0 0)).setCell ⟨w.heap.size + 1, 0, none⟩ (.int .i64 160)).setCell ⟨w.heap.size + 1, 1, none⟩ (.int .i64 pos)) = F from hF]
                clear hF
                exact bodyPost_ret (v := .tuple #[.agg #[.slice none 0 0, .slice none 0 0], .agg #[.int .i64 160, .int .i64 pos]]) (by simp [results, Try.f28, go_sem, q0, q1, q2, q3]) rfl (RefPost.bad HZ.out qB)
            | true =>
              rw [hl] at hFe
              simp only [if_true] at hFe
              have hFr := clsL_range hl
              rw [HLOOK.out.2.1, ← hFe] at hFr
              have e7 : (F == -2) = false := by rw [beq_eq_false_iff_ne]; omega
              have HF := Lib.hid (And.intro hFe hl)
              clear hFe hl
              by_cases c5 : L.length = 512
              · have e512 : ((L.length : Int) == 512) = true := by rw [c5]; rfl
                as_aux_lemma =>
                  have HZ := Lib.hid (HRUN.out.1.1 3 (errf_512 rfl HF.out.2 c5) (by decide))
                  clear HRUN c32 c5
                  go_wp2_with (go_at_call 66; refine (wrong_any _ _ _).mono ?_; rintro e P2 ⟨rfl, hB2⟩; have hR2 := HM.out.1.below hB2; have y0 := hR2.2.1.cell 0; have y1 := hR2.2.1.cell 1; have yf0 := hR2.2.1.frozen 0; have yf1 := hR2.2.1.frozen 1; have z0 := hR2.2.2.cell 0; have z1 := hR2.2.2.cell 1; have zf0 := hR2.2.2.frozen 0; have zf1 := hR2.2.2.frozen 1; simp only [List.getElem?_toArray, List.getElem?_cons_succ, List.getElem?_cons_zero] at y0 y1 z0 z1; have HR2 := Lib.hid hR2; clear hB2 hR2)
                  obtain ⟨q0, q1, q2, q3, qB⟩ := endF_all HR2.out (.slice none 0 0) (.slice none 0 0) (.int .i64 3) (.int .i64 pos)
                  obtain ⟨F, hF⟩ : ∃ F, endF P2 w.heap.size (.slice none 0 0) (.slice none 0 0) (.int .i64 3) (.int .i64 pos) = F := ⟨_, rfl⟩
                  rw [hF] at q0 q1 q2 q3 qB
                  rw [show ((((P2.setCell ⟨w.heap.size, 0, none⟩ (.slice none 0 0)).setCell ⟨w.heap.size, 1, none⟩ (.slice none 0 0)).setCell ⟨w.heap.size + 1, 0, none⟩ (.int .i64 3)).setCell ⟨w.heap.size + 1, 1, none⟩ (.int .i64 pos)) = F from hF]
                  clear hF
                  exact bodyPost_ret (v := .tuple #[.agg #[.slice none 0 0, .slice none 0 0], .agg #[.int .i64 3, .int .i64 pos]]) (by simp [results, Try.f28, go_sem, q0, q1, q2, q3]) rfl (RefPost.bad HZ.out qB)
              have e512 : ((L.length : Int) == 512) = false := by rw [beq_eq_false_iff_ne]; omega
              have e513 : (L.length == 512) = false := by rw [beq_eq_false_iff_ne]; omega
              have hL5 : L.length ≤ 511 := by omega
              have HC5 := Lib.hid c5
              clear c5
              have hXs : w.heap.size + 3 ≤ X.heap.size := by have := HM.out.2.1.1.lt; omega
              go_upto_region 26 with (fail)
              go_cut [83] from 16 to 137 (fun bv wx => bv = .bool a ∧ X = wx)
              case first =>
                have ha := HM.out.2.2.2
                by_cases h0 : pos = 0
                · have e0 : ((pos : Int) == 0) = true := by rw [h0]; rfl
                  have hat : a = true := by rw [ha, h0]; rfl
                  clear h0 ha
                  subst hat
                  go_wp2
                  go_meet
                  exact ⟨rfl, rfl⟩
                · have e0 : ((pos : Int) == 0) = false := by rw [beq_eq_false_iff_ne]; omega
                  have hg1 := bt_get s (pos - 1) (by omega)
                  have j1 : (0 : Int) ≤ (pos : Int) - 1 := by omega
                  have j2 : ((pos : Int) - 1).toNat = pos - 1 := by omega
                  have j3 : pos - 1 < s.size := by omega
                  have hat : a = (bt s (pos - 1) == 32) := by rw [ha, show (pos == 0) = false from beq_eq_false_iff_ne.2 h0]; rfl
                  obtain ⟨b, hb⟩ : ∃ b, bt s (pos - 1) = b := ⟨_, rfl⟩
                  rw [hb] at hg1 hat
                  clear hb h0 ha
                  by_cases h32 : b = 32
                  · have e32 : ((b : Int) == 32) = true := by rw [h32]; rfl
                    replace hat : a = true := by rw [hat, h32]; rfl
                    clear h32
                    subst hat
                    go_wp2
                    go_meet
                    exact ⟨rfl, rfl⟩
                  · have e32 : ((b : Int) == 32) = false := by rw [beq_eq_false_iff_ne]; omega
                    replace hat : a = false := by rw [hat]; exact beq_eq_false_iff_ne.2 h32
                    clear h32
                    subst hat
                    go_wp2
                    go_meet
                    exact ⟨rfl, rfl⟩
              case rest =>
                obtain ⟨rfl, rfl⟩ := hcut
                go_upto_if 83 with (fail)
                go_cut [8] from 16 to 137 (fun cv wx => cv = .int .i64 F ∧ RfB w wx ∧ ∃ vs2, SchB wx (w.heap.size + 2) (w.heap.size + 3) (.slice ol L.length cl) vs2 L (if a then S ++ [0] else S))
                case first =>
                  cases a with
                  | true =>
                    have hown : (X.alloc (.cells #[.int .i64 0] 3)).ownsRow (w.heap.size + 3) 3 1 (.slice os S.length cs) S.length (S.flatMap encI) := (HM.out.2.1.alloc (.cells #[.int .i64 0] 3)).2.2
                    have HOW := Lib.hid hown
                    clear hown
                    go_wp2_with (at_builtin; refine wpList_append_own _ rfl _ _ 23 rfl (w.heap.size + 3) 3 i0 (.int .i64 0) 1 8 Try.underlying23 hi hz0 hz1 hz2 rfl (by decide) _ _ _ rfl HOW.out ⟨X.heap.size, 0, none⟩ 1 1 [.int .i64 0] rfl rfl (cell_one_new _ _ _) (fun x hx => by simp at hx; subst hx; rfl) (by unfold maxLen; omega) (by omega) (by simp; omega) ?_; intro v2 w2 hown2 hg2 _; have hS2 := SchB.putS (S' := S ++ [0]) (HM.out.2.1.alloc _) (by omega) hg2 (by rw [List.flatMap_append]; exact hown2) (by simp); have k2 := (HM.out.2.1.alloc _).1.kept hg2 (fun e => by have := (HOW.out.lt _ e.symm).1; omega); have k20 := k2.cell 1; have k21 := k2.frozen 1; have hR2 := ((HM.out.1.kept (World.grownBy_alloc X (.cells #[.int .i64 0] 3) none) (by simp)).kept hg2 (fun r e => by have := (HOW.out.lt _ e).1; omega)).kept (grownBy_setCell w2 (w.heap.size + 2) 1 v2) (fun r e => by cases e; omega); have HS2 := Lib.hid (And.intro hR2 hS2); obtain ⟨o2, c2, rfl, ho2⟩ := own_slice hown2; clear hS2 hown2 hg2 k2 hR2)
                    go_meet
                    exact ⟨rfl, HS2.out.1, _, HS2.out.2⟩
                  | false =>
                    go_wp2
                    go_meet
                    exact ⟨rfl, HM.out.1, _, HM.out.2.1⟩
                case rest =>
                  obtain ⟨rfl, hRX, vs2, hSX⟩ := hcut
                  obtain ⟨mS, y, hTl, hy, hy0', hy5, hset⟩ := s2_last HM.out.2.2.1
                  obtain ⟨T, hT⟩ : ∃ T, (if a then S ++ [0] else S) = T := ⟨_, rfl⟩
                  rw [hT] at hTl hy hset hSX
                  have HT := Lib.hid (And.intro hTl (And.intro hy hset))
                  obtain ⟨oS, cS, rfl, hoS⟩ := own_slice hSX.2.2
                  obtain ⟨gS, rfl⟩ := hoS (by omega)
                  rw [hTl] at hSX
                  have hmS : mS ≤ 512 := by have h1 : T.length ≤ S.length + 1 := by { rw [← hT]; split <;> simp }; omega
                  clear hoS hTl hy hset hT x0 x1 xf0 xf1
                  obtain ⟨Y, rfl⟩ : ∃ Y, Y = wc := ⟨_, rfl⟩
                  have hYs : w.heap.size + 3 ≤ Y.heap.size := by have := hSX.1.lt; omega
                  have x0 : Y.cell? ⟨w.heap.size + 2, 0, none⟩ = some (.slice ol L.length cl) := hSX.1.cell 0
                  have x1 : Y.cell? ⟨w.heap.size + 2, 1, none⟩ = some (.slice (some ⟨gS, 0, none⟩) (mS + 1) cS) := hSX.1.cell 1
                  have HX := Lib.hid (And.intro hRX hSX)
                  clear hRX hSX
                  have e8 : (((c : Int) - 65 + 97) != (c : Int)) = true := by rw [bne_iff_ne]; omega
                  have e9 : (((c : Int) - 65 + 97) == (c : Int)) = false := by rw [beq_eq_false_iff_ne]; omega
                  have hgE := okf_let (st := ⟨L, S, false, a⟩) (c := c) rfl HF.out.2 HC5.out
                  have hrun2 := HRUN.out.1.2 hgE
                  rw [nextf_let HF.out.2, HLOOK.out.2.1, ← HF.out.1, show decide (c ≤ 90) = true from decide_eq_true (by omega)] at hrun2
                  have hok2 := HM.out.2.2.1.next hgE
                  rw [nextf_let HF.out.2, HLOOK.out.2.1, ← HF.out.1, show decide (c ≤ 90) = true from decide_eq_true (by omega)] at hok2
                  by_cases hend : pos + 1 = s.size
                  · have hsz : s.size = pos + 1 := hend.symm
                    have hrun3 : R = (⟨[], []⟩, 160, ((pos + 1 : Nat) : Int)) := by rw [← hrun2, hend, Nat.sub_self]; rfl
                    have HR3 := Lib.hid (show R = (⟨[], []⟩, 160, (pos : Int) + 1) from hrun3.trans (by simp))
                    clear hrun2 hrun3 hok2 hgE hend
                    as_aux_lemma =>
                      have HZ := Lib.hid (HR3.out)
                      have HR1 := Lib.hid (HX.out.1.kept (World.grownBy_alloc Y (.cells #[.int .i64 F, .int .i64 0] 79) none) (by simp))
                      clear HRUN c32
                      go_wp2_with (go_at_call 66; refine (wrong_any _ _ _).mono ?_; rintro e P2 ⟨rfl, hB2⟩; have hR2 := HR1.out.below hB2; have y0 := hR2.2.1.cell 0; have y1 := hR2.2.1.cell 1; have yf0 := hR2.2.1.frozen 0; have yf1 := hR2.2.1.frozen 1; have z0 := hR2.2.2.cell 0; have z1 := hR2.2.2.cell 1; have zf0 := hR2.2.2.frozen 0; have zf1 := hR2.2.2.frozen 1; simp only [List.getElem?_toArray, List.getElem?_cons_succ, List.getElem?_cons_zero] at y0 y1 z0 z1; have HR2 := Lib.hid hR2; clear hB2 hR2)
                      obtain ⟨q0, q1, q2, q3, qB⟩ := endF_all HR2.out (.slice none 0 0) (.slice none 0 0) (.int .i64 160) (.int .i64 ((pos : Int) + 1))
                      obtain ⟨F, hF⟩ : ∃ F, endF P2 w.heap.size (.slice none 0 0) (.slice none 0 0) (.int .i64 160) (.int .i64 ((pos : Int) + 1)) = F := ⟨_, rfl⟩
                      rw [hF] at q0 q1 q2 q3 qB
                      rw [show ((((P2.setCell ⟨w.heap.size, 0, none⟩ (.slice none 0 0)).setCell ⟨w.heap.size, 1, none⟩ (.slice none 0 0)).setCell ⟨w.heap.size + 1, 0, none⟩ (.int .i64 160)).setCell ⟨w.heap.size + 1, 1, none⟩ (.int .i64 ((pos : Int) + 1))) = F from hF]
                      clear hF
                      exact bodyPost_ret (v := .tuple #[.agg #[.slice none 0 0, .slice none 0 0], .agg #[.int .i64 160, .int .i64 ((pos : Int) + 1)]]) (by simp [results, Try.f28, go_sem, q0, q1, q2, q3]) rfl (RefPost.bad HZ.out qB)
                  have hp1 : pos + 1 < s.size := by omega
                  have e10 : ((pos : Int) + 1 == (s.size : Int)) = false := by rw [beq_eq_false_iff_ne]; omega
                  have hg3 := bt_get s (pos + 1) hp1
                  have j4 : ((pos : Int) + 1).toNat = pos + 1 := by omega
                  have j5 : (0 : Int) ≤ (pos : Int) + 1 := by omega
                  have j6 : (pos : Int) + 1 < (s.size : Int) := by omega
                  have hd256 := bt_lt s (pos + 1)
                  obtain ⟨d, hd⟩ : ∃ d, bt s (pos + 1) = d := ⟨_, rfl⟩
                  have hbad : ¬ (49 ≤ d ∧ d ≤ 57) → R = (⟨[], []⟩, 160, (pos : Int) + 1) := fun h => by
                    have h2 := errf_g (st := ⟨L ++ [⟨F, 0⟩], if a = true then S ++ [1] else bump S, true, false⟩) rfl h
                    rw [← hd] at h2
                    rw [← hrun2, run_no hp1 (by rw [h2]; decide), h2]; simp
                  have hgood : 49 ≤ d → d ≤ 57 → runR s (s.size - (pos + 2)) (pos + 2) ⟨L ++ [⟨F, (d : Int) - 48⟩], if a = true then S ++ [1] else bump S, false, false⟩ = R ∧ StOK ⟨L ++ [⟨F, (d : Int) - 48⟩], if a = true then S ++ [1] else bump S, false, false⟩ := fun h1 h2 => by
                    have h3 := okf_g (st := ⟨L ++ [⟨F, 0⟩], if a = true then S ++ [1] else bump S, true, false⟩) (c := d) rfl ⟨h1, h2⟩
                    have h4 := hok2.next h3
                    rw [nextf_dig] at h4
                    refine ⟨?_, h4⟩
                    rw [← hd] at h3
                    rw [← hrun2, run_ok hp1 h3, hd, nextf_dig]
                  rw [hd] at hg3 hd256
                  have HBG := Lib.hid (And.intro hbad (And.intro hgood hd))
                  clear hbad hgood hd hrun2 hok2 hgE hend
                  by_cases hd1 : d < 49
                  · have d5 : decide ((d : Int) < 49) = true := decide_eq_true (by omega)
                    as_aux_lemma =>
                      have HZ := Lib.hid (HBG.out.1 (by omega))
                      have HR1 := Lib.hid (HX.out.1.kept (World.grownBy_alloc Y (.cells #[.int .i64 F, .int .i64 0] 79) none) (by simp))
                      clear HRUN c32
                      go_wp2_with (go_at_call 66; refine (wrong_any _ _ _).mono ?_; rintro e P2 ⟨rfl, hB2⟩; have hR2 := HR1.out.below hB2; have y0 := hR2.2.1.cell 0; have y1 := hR2.2.1.cell 1; have yf0 := hR2.2.1.frozen 0; have yf1 := hR2.2.1.frozen 1; have z0 := hR2.2.2.cell 0; have z1 := hR2.2.2.cell 1; have zf0 := hR2.2.2.frozen 0; have zf1 := hR2.2.2.frozen 1; simp only [List.getElem?_toArray, List.getElem?_cons_succ, List.getElem?_cons_zero] at y0 y1 z0 z1; have HR2 := Lib.hid hR2; clear hB2 hR2)
                      obtain ⟨q0, q1, q2, q3, qB⟩ := endF_all HR2.out (.slice none 0 0) (.slice none 0 0) (.int .i64 160) (.int .i64 ((pos : Int) + 1))
                      obtain ⟨F, hF⟩ : ∃ F, endF P2 w.heap.size (.slice none 0 0) (.slice none 0 0) (.int .i64 160) (.int .i64 ((pos : Int) + 1)) = F := ⟨_, rfl⟩
                      rw [hF] at q0 q1 q2 q3 qB
                      rw [show ((((P2.setCell ⟨w.heap.size, 0, none⟩ (.slice none 0 0)).setCell ⟨w.heap.size, 1, none⟩ (.slice none 0 0)).setCell ⟨w.heap.size + 1, 0, none⟩ (.int .i64 160)).setCell ⟨w.heap.size + 1, 1, none⟩ (.int .i64 ((pos : Int) + 1))) = F from hF]
                      clear hF
                      exact bodyPost_ret (v := .tuple #[.agg #[.slice none 0 0, .slice none 0 0], .agg #[.int .i64 160, .int .i64 ((pos : Int) + 1)]]) (by simp [results, Try.f28, go_sem, q0, q1, q2, q3]) rfl (RefPost.bad HZ.out qB)
                  have d5 : decide ((d : Int) < 49) = false := decide_eq_false (by omega)
                  by_cases hd2 : 57 < d
                  · have d6 : decide ((57 : Int) < (d : Int)) = true := decide_eq_true (by omega)
                    as_aux_lemma =>
                      have HZ := Lib.hid (HBG.out.1 (by omega))
                      have HR1 := Lib.hid (HX.out.1.kept (World.grownBy_alloc Y (.cells #[.int .i64 F, .int .i64 0] 79) none) (by simp))
                      clear HRUN c32
                      go_wp2_with (go_at_call 66; refine (wrong_any _ _ _).mono ?_; rintro e P2 ⟨rfl, hB2⟩; have hR2 := HR1.out.below hB2; have y0 := hR2.2.1.cell 0; have y1 := hR2.2.1.cell 1; have yf0 := hR2.2.1.frozen 0; have yf1 := hR2.2.1.frozen 1; have z0 := hR2.2.2.cell 0; have z1 := hR2.2.2.cell 1; have zf0 := hR2.2.2.frozen 0; have zf1 := hR2.2.2.frozen 1; simp only [List.getElem?_toArray, List.getElem?_cons_succ, List.getElem?_cons_zero] at y0 y1 z0 z1; have HR2 := Lib.hid hR2; clear hB2 hR2)
                      obtain ⟨q0, q1, q2, q3, qB⟩ := endF_all HR2.out (.slice none 0 0) (.slice none 0 0) (.int .i64 160) (.int .i64 ((pos : Int) + 1))
                      obtain ⟨F, hF⟩ : ∃ F, endF P2 w.heap.size (.slice none 0 0) (.slice none 0 0) (.int .i64 160) (.int .i64 ((pos : Int) + 1)) = F := ⟨_, rfl⟩
                      rw [hF] at q0 q1 q2 q3 qB
                      rw [show ((((P2.setCell ⟨w.heap.size, 0, none⟩ (.slice none 0 0)).setCell ⟨w.heap.size, 1, none⟩ (.slice none 0 0)).setCell ⟨w.heap.size + 1, 0, none⟩ (.int .i64 160)).setCell ⟨w.heap.size + 1, 1, none⟩ (.int .i64 ((pos : Int) + 1))) = F from hF]
                      clear hF
                      exact bodyPost_ret (v := .tuple #[.agg #[.slice none 0 0, .slice none 0 0], .agg #[.int .i64 160, .int .i64 ((pos : Int) + 1)]]) (by simp [results, Try.f28, go_sem, q0, q1, q2, q3]) rfl (RefPost.bad HZ.out qB)
                  have d6 : decide ((57 : Int) < (d : Int)) = false := decide_eq_false (by omega)
                  have u3 : IntKind.u8.wrap ((d : Int) - 48) = (d : Int) - 48 := by unfold IntKind.wrap; simp [IntKind.bits, IntKind.signed]; omega
                  as_aux_lemma =>
                    have xl0 : (Y.alloc (.cells #[.int .i64 F, .int .i64 ((d : Int) - 48)] 79)).cell? ⟨w.heap.size + 2, 0, none⟩ = some (.slice ol L.length cl) := (HX.out.2.alloc (.cells #[.int .i64 F, .int .i64 ((d : Int) - 48)] 79)).1.cell 0
                    have hn1 := World.alloc_heap_new (Y.alloc (.cells #[.int .i64 F, .int .i64 ((d : Int) - 48)] 79)) (.cells #[.int .i64 F, .int .i64 ((d : Int) - 48)] 79)
                    rw [World.size_alloc] at hn1
                    have hXX := (HX.out.2.alloc (.cells #[.int .i64 F, .int .i64 ((d : Int) - 48)] 79)).alloc (.cells #[.int .i64 F, .int .i64 ((d : Int) - 48)] 79)
                    have hRR := (HX.out.1.kept (World.grownBy_alloc Y (.cells #[.int .i64 F, .int .i64 ((d : Int) - 48)] 79) none) (by simp)).kept (World.grownBy_alloc _ (.cells #[.int .i64 F, .int .i64 ((d : Int) - 48)] 79) none) (by simp)
                    have HXX := Lib.hid (And.intro hXX (And.intro hRR hn1))
                    clear hn1 hXX hRR
                    go_upto_region 35 with (at_builtin; refine wpList_append_own _ rfl _ _ 22 rfl (w.heap.size + 3) 79 j0 (.agg #[.int .i64 0, .int .i64 0]) 2 16 Try.underlying22 hj hy0 hy1 hy2 rfl (by decide) _ _ _ rfl HXX.out.1.2.1 ⟨Y.heap.size + 1, 0, none⟩ 1 1 [.int .i64 F, .int .i64 ((d : Int) - 48)] rfl rfl (World.news_of_block (cs := #[.int .i64 F, .int .i64 ((d : Int) - 48)]) (t := 79) (fr := (0, 0)) HXX.out.2.2) (fun x hx => by simp at hx; rcases hx with rfl | rfl <;> rfl) (by unfold maxLen; omega) (by omega) (by simp; omega) ?_; intro v3 w3 hown3 hg3 _; have k3 := HXX.out.1.1.kept hg3 (fun e => by have := (HXX.out.1.2.1.lt _ e.symm).1; omega); have k30 := k3.cell 0; have k31 := k3.frozen 0; have hS3 := SchB.putL (L' := L ++ [⟨F, ((d : Int) - 48)⟩]) HXX.out.1 (by omega) hg3 (by rw [List.flatMap_append]; exact hown3) (by simp); have hR3 := (HXX.out.2.1.kept hg3 (fun r e => by have := (HXX.out.1.2.1.lt _ e).1; omega)).kept (grownBy_setCell w3 (w.heap.size + 2) 0 v3) (fun r e => by cases e; omega); have HW3 := Lib.hid (And.intro hR3 hS3); obtain ⟨o3, c3, rfl, _⟩ := own_slice hown3; clear k3 hS3 hR3 hown3 hg3)
                    have hRX := HW3.out.1
                    have hSX := HW3.out.2
                    obtain ⟨V, hV⟩ : ∃ V, w3.setCell ⟨w.heap.size + 2, 0, none⟩ (.slice o3 (L.length + 1) c3) = V := ⟨_, rfl⟩
                    rw [hV] at hRX hSX
                    rw [show w3.setCell ⟨w.heap.size + 1 + 1, 0, none⟩ (.slice o3 (L.length + 1) c3) = V from hV]
                    clear hV k30 k31 x0 x1 xl0
                    have t1 : V.cell? ⟨w.heap.size + 2, 1, none⟩ = some (.slice (some ⟨gS, 0, none⟩) (mS + 1) cS) := hSX.1.cell 1
                    have hTl := HT.out.1
                    have hoX : V.ownsRow (w.heap.size + 3) 3 1 (.slice (some ⟨gS, 0, none⟩) (mS + 1) cS) (mS + 1) (T.flatMap encI) := by have h := hSX.2.2; rwa [hTl] at h
                    have t2 : V.cell? ⟨gS, mS, none⟩ = some (.int .i64 y) := (hoX.cellAt mS (by omega)).trans (by have := fl_get (enc := encI) encI_len HT.out.2.1 (j := 0) (by decide); simpa [encI] using this)
                    have t3 : V.frozen? ⟨gS, mS, none⟩ = false := own_freeK hoX mS
                    have hgS := (hSX.2.2.lt gS rfl).1
                    have hSY := hSX.setS (u := .int .i64 (y + 1)) (by omega) (show mS < T.length by omega) (by simp) (encI_set (by omega) (y + 1))
                    have hRY := hRX.kept (grownBy_setCell V gS mS (.int .i64 (y + 1))) (fun r e => by cases e; omega)
                    have HW := Lib.hid (And.intro hRY hSY)
                    clear hRX hSX hoX hSY hRY hTl hgS
                    go_wp2
                    go_roundw
                    case rel => exact ⟨_, _, false, pos + 2, by go_num, by omega, by rw [show pos + 2 - 1 = pos + 1 by omega, HBG.out.2.2, show (pos + 2 == 0) = false from rfl, show (d == 32) = false from beq_eq_false_iff_ne.2 (by omega)]; rfl, (HBG.out.2.1 (by omega) (by omega)).2, (HBG.out.2.1 (by omega) (by omega)).1, HW.out.1, _, _, HT.out.2.2 ▸ HW.out.2⟩
                    case measure => simp [intOf]; omega
      rw [if_neg hG] at hsm
      have hsa : (sm : Int) ≤ (c : Int) := by omega
      have hsb : (c : Int) ≤ (sm : Int) := by omega
      have HS0 := Lib.hid hs0
      clear hsm hs0
      go_upto_region 12 with (fail)
      go_cut [46] from 16 to 137 (fun bv wx => bv = .bool false ∧ X = wx)
      case first =>
        by_cases h1 : 65 ≤ c
        · have d3 : decide ((65 : Int) ≤ (c : Int)) = true := decide_eq_true (by omega)
          have d4 : decide ((c : Int) ≤ 90) = false := decide_eq_false (by omega)
          go_wp2
          go_meet
          exact ⟨rfl, rfl⟩
        · have d3 : decide ((65 : Int) ≤ (c : Int)) = false := decide_eq_false (by omega)
          go_wp2
          go_meet
          exact ⟨rfl, rfl⟩
      case rest =>
        obtain ⟨rfl, rfl⟩ := hcut
        obtain ⟨b120, hb120⟩ : ∃ b, ((c : Int) == 120) = b := ⟨_, rfl⟩
        have HB120 := Lib.hid hb120
        go_upto_if 51 with (fail)
        go_cut [8] from 16 to 137 (fun cv wx => cv = .int .i64 s0 ∧ X = wx)
        case first =>
          cases b120 with
          | true =>
            go_wp2
            go_meet
            exact ⟨by rw [← HS0.out, if_pos (by have := HB120.out; rw [beq_iff_eq] at this; omega)], rfl⟩
          | false =>
            go_wp2
            go_meet
            exact ⟨by rw [← HS0.out, if_neg (by have := HB120.out; rw [beq_eq_false_iff_ne] at this; omega)], rfl⟩
        case rest =>
          obtain ⟨rfl, rfl⟩ := hcut
          clear hb120
          go_wp2
          go_loopw [8, 9] (fun cv kv W => ∃ k : Nat, kv = .int .i64 k ∧ k ≤ 25 ∧ cv = .int .i64 (look s0 sm k) ∧ X = W) (fun _ kv _ => 25 - (intOf kv).toNat)
          case atStart => exact ⟨0, rfl, by omega, rfl, by first | rfl | trivial⟩
          case round =>
            obtain ⟨k, rfl, hk, rfl, rfl⟩ := hrel
            by_cases hk25 : k < 25
            · have hg2 := bt_get LETS k hk25
              obtain ⟨b, hb⟩ : ∃ b, bt LETS k = b := ⟨_, rfl⟩
              rw [hb] at hg2
              have hlk : look s0 sm (k + 1) = if b = sm then (k : Int) else look s0 sm k := by rw [← hb]; rfl
              obtain ⟨F0, hF0⟩ : ∃ F, look s0 sm k = F := ⟨_, rfl⟩
              rw [hF0] at hlk ⊢
              by_cases hbs : b = sm
              · have e5 : ((b : Int) == (c : Int)) = true := by rw [beq_iff_eq]; omega
                have e6 : (b == c) = true := by rw [beq_iff_eq]; omega
                rw [if_pos hbs] at hlk
                have HK := Lib.hid hlk
                clear hlk hb hbs hF0
                go_wp2
                go_roundw
                case rel => exact ⟨k + 1, by go_num, by omega, by rw [HK.out], by first | rfl | trivial⟩
                case measure => simp [intOf]; omega
              · have e5 : ((b : Int) == (c : Int)) = false := by rw [beq_eq_false_iff_ne]; omega
                have e6 : (b == c) = false := by rw [beq_eq_false_iff_ne]; omega
                rw [if_neg hbs] at hlk
                have HK := Lib.hid hlk
                clear hlk hb hbs hF0
                go_wp2
                go_roundw
                case rel => exact ⟨k + 1, by go_num, by omega, by rw [HK.out], by first | rfl | trivial⟩
                case measure => simp [intOf]; omega
            · have hFe : look s0 sm k = if isLet c = true then clsL sm else -2 := by
                obtain rfl : k = 25 := by omega
                exact HLOOK.out.1
              obtain ⟨F, hF⟩ : ∃ F, look s0 sm k = F := ⟨_, rfl⟩
              rw [hF] at hFe ⊢
              clear hF hsa hsb
              cases hl : isLet c with
              | false =>
                rw [hl] at hFe
                simp only [Bool.false_eq_true, if_false] at hFe
                subst hFe
                as_aux_lemma =>
                  have HZ := Lib.hid (HRUN.out.1.1 160 (errf_n rfl (by simp [c32]) hl) (by decide))
                  clear HRUN c32 hl
                  go_wp2_with (go_at_call 66; refine (wrong_any _ _ _).mono ?_; rintro e P2 ⟨rfl, hB2⟩; have hR2 := HM.out.1.below hB2; have y0 := hR2.2.1.cell 0; have y1 := hR2.2.1.cell 1; have yf0 := hR2.2.1.frozen 0; have yf1 := hR2.2.1.frozen 1; have z0 := hR2.2.2.cell 0; have z1 := hR2.2.2.cell 1; have zf0 := hR2.2.2.frozen 0; have zf1 := hR2.2.2.frozen 1; simp only [List.getElem?_toArray, List.getElem?_cons_succ, List.getElem?_cons_zero] at y0 y1 z0 z1; have HR2 := Lib.hid hR2; clear hB2 hR2)
                  obtain ⟨q0, q1, q2, q3, qB⟩ := endF_all HR2.out (.slice none 0 0) (.slice none 0 0) (.int .i64 160) (.int .i64 pos)
                  obtain ⟨F, hF⟩ : ∃ F, endF P2 w.heap.size (.slice none 0 0) (.slice none 0 0) (.int .i64 160) (.int .i64 pos) = F := ⟨_, rfl⟩
                  rw [hF] at q0 q1 q2 q3 qB
                  rw [show ((((P2.setCell ⟨w.heap.size, 0, none⟩ (.slice none 0 0)).setCell ⟨w.heap.size, 1, none⟩ (.slice none 0 0)).setCell ⟨w.heap.size + 1, 0, none⟩ (.int .i64 160)).setCell ⟨w.heap.size + 1, 1, none⟩ (.int .i64 pos)) = F from hF]
                  clear hF
                  exact bodyPost_ret (v := .tuple #[.agg #[.slice none 0 0, .slice none 0 0], .agg #[.int .i64 160, .int .i64 pos]]) (by simp [results, Try.f28, go_sem, q0, q1, q2, q3]) rfl (RefPost.bad HZ.out qB)
              | true =>
                rw [hl] at hFe
                simp only [if_true] at hFe
                have hFr := clsL_range hl
                rw [HLOOK.out.2.1, ← hFe] at hFr
                have e7 : (F == -2) = false := by rw [beq_eq_false_iff_ne]; omega
                have HF := Lib.hid (And.intro hFe hl)
                clear hFe hl
                by_cases c5 : L.length = 512
                · have e512 : ((L.length : Int) == 512) = true := by rw [c5]; rfl
                  as_aux_lemma =>
                    have HZ := Lib.hid (HRUN.out.1.1 3 (errf_512 rfl HF.out.2 c5) (by decide))
                    clear HRUN c32 c5
                    go_wp2_with (go_at_call 66; refine (wrong_any _ _ _).mono ?_; rintro e P2 ⟨rfl, hB2⟩; have hR2 := HM.out.1.below hB2; have y0 := hR2.2.1.cell 0; have y1 := hR2.2.1.cell 1; have yf0 := hR2.2.1.frozen 0; have yf1 := hR2.2.1.frozen 1; have z0 := hR2.2.2.cell 0; have z1 := hR2.2.2.cell 1; have zf0 := hR2.2.2.frozen 0; have zf1 := hR2.2.2.frozen 1; simp only [List.getElem?_toArray, List.getElem?_cons_succ, List.getElem?_cons_zero] at y0 y1 z0 z1; have HR2 := Lib.hid hR2; clear hB2 hR2)
                    obtain ⟨q0, q1, q2, q3, qB⟩ := endF_all HR2.out (.slice none 0 0) (.slice none 0 0) (.int .i64 3) (.int .i64 pos)
                    obtain ⟨F, hF⟩ : ∃ F, endF P2 w.heap.size (.slice none 0 0) (.slice none 0 0) (.int .i64 3) (.int .i64 pos) = F := ⟨_, rfl⟩
                    rw [hF] at q0 q1 q2 q3 qB
                    rw [show ((((P2.setCell ⟨w.heap.size, 0, none⟩ (.slice none 0 0)).setCell ⟨w.heap.size, 1, none⟩ (.slice none 0 0)).setCell ⟨w.heap.size + 1, 0, none⟩ (.int .i64 3)).setCell ⟨w.heap.size + 1, 1, none⟩ (.int .i64 pos)) = F from hF]
                    clear hF
                    exact bodyPost_ret (v := .tuple #[.agg #[.slice none 0 0, .slice none 0 0], .agg #[.int .i64 3, .int .i64 pos]]) (by simp [results, Try.f28, go_sem, q0, q1, q2, q3]) rfl (RefPost.bad HZ.out qB)
                have e512 : ((L.length : Int) == 512) = false := by rw [beq_eq_false_iff_ne]; omega
                have e513 : (L.length == 512) = false := by rw [beq_eq_false_iff_ne]; omega
                have hL5 : L.length ≤ 511 := by omega
                have HC5 := Lib.hid c5
                clear c5
                have hXs : w.heap.size + 3 ≤ X.heap.size := by have := HM.out.2.1.1.lt; omega
                go_upto_region 26 with (fail)
                go_cut [83] from 16 to 137 (fun bv wx => bv = .bool a ∧ X = wx)
                case first =>
                  have ha := HM.out.2.2.2
                  by_cases h0 : pos = 0
                  · have e0 : ((pos : Int) == 0) = true := by rw [h0]; rfl
                    have hat : a = true := by rw [ha, h0]; rfl
                    clear h0 ha
                    subst hat
                    go_wp2
                    go_meet
                    exact ⟨rfl, rfl⟩
                  · have e0 : ((pos : Int) == 0) = false := by rw [beq_eq_false_iff_ne]; omega
                    have hg1 := bt_get s (pos - 1) (by omega)
                    have j1 : (0 : Int) ≤ (pos : Int) - 1 := by omega
                    have j2 : ((pos : Int) - 1).toNat = pos - 1 := by omega
                    have j3 : pos - 1 < s.size := by omega
                    have hat : a = (bt s (pos - 1) == 32) := by rw [ha, show (pos == 0) = false from beq_eq_false_iff_ne.2 h0]; rfl
                    obtain ⟨b, hb⟩ : ∃ b, bt s (pos - 1) = b := ⟨_, rfl⟩
                    rw [hb] at hg1 hat
                    clear hb h0 ha
                    by_cases h32 : b = 32
                    · have e32 : ((b : Int) == 32) = true := by rw [h32]; rfl
                      replace hat : a = true := by rw [hat, h32]; rfl
                      clear h32
                      subst hat
                      go_wp2
                      go_meet
                      exact ⟨rfl, rfl⟩
                    · have e32 : ((b : Int) == 32) = false := by rw [beq_eq_false_iff_ne]; omega
                      replace hat : a = false := by rw [hat]; exact beq_eq_false_iff_ne.2 h32
                      clear h32
                      subst hat
                      go_wp2
                      go_meet
                      exact ⟨rfl, rfl⟩
                case rest =>
                  obtain ⟨rfl, rfl⟩ := hcut
                  go_upto_if 83 with (fail)
                  go_cut [8] from 16 to 137 (fun cv wx => cv = .int .i64 F ∧ RfB w wx ∧ ∃ vs2, SchB wx (w.heap.size + 2) (w.heap.size + 3) (.slice ol L.length cl) vs2 L (if a then S ++ [0] else S))
                  case first =>
                    cases a with
                    | true =>
                      have hown : (X.alloc (.cells #[.int .i64 0] 3)).ownsRow (w.heap.size + 3) 3 1 (.slice os S.length cs) S.length (S.flatMap encI) := (HM.out.2.1.alloc (.cells #[.int .i64 0] 3)).2.2
                      have HOW := Lib.hid hown
                      clear hown
                      go_wp2_with (at_builtin; refine wpList_append_own _ rfl _ _ 23 rfl (w.heap.size + 3) 3 i0 (.int .i64 0) 1 8 Try.underlying23 hi hz0 hz1 hz2 rfl (by decide) _ _ _ rfl HOW.out ⟨X.heap.size, 0, none⟩ 1 1 [.int .i64 0] rfl rfl (cell_one_new _ _ _) (fun x hx => by simp at hx; subst hx; rfl) (by unfold maxLen; omega) (by omega) (by simp; omega) ?_; intro v2 w2 hown2 hg2 _; have hS2 := SchB.putS (S' := S ++ [0]) (HM.out.2.1.alloc _) (by omega) hg2 (by rw [List.flatMap_append]; exact hown2) (by simp); have k2 := (HM.out.2.1.alloc _).1.kept hg2 (fun e => by have := (HOW.out.lt _ e.symm).1; omega); have k20 := k2.cell 1; have k21 := k2.frozen 1; have hR2 := ((HM.out.1.kept (World.grownBy_alloc X (.cells #[.int .i64 0] 3) none) (by simp)).kept hg2 (fun r e => by have := (HOW.out.lt _ e).1; omega)).kept (grownBy_setCell w2 (w.heap.size + 2) 1 v2) (fun r e => by cases e; omega); have HS2 := Lib.hid (And.intro hR2 hS2); obtain ⟨o2, c2, rfl, ho2⟩ := own_slice hown2; clear hS2 hown2 hg2 k2 hR2)
                      go_meet
                      exact ⟨rfl, HS2.out.1, _, HS2.out.2⟩
                    | false =>
                      go_wp2
                      go_meet
                      exact ⟨rfl, HM.out.1, _, HM.out.2.1⟩
                  case rest =>
                    obtain ⟨rfl, hRX, vs2, hSX⟩ := hcut
                    obtain ⟨mS, y, hTl, hy, hy0', hy5, hset⟩ := s2_last HM.out.2.2.1
                    obtain ⟨T, hT⟩ : ∃ T, (if a then S ++ [0] else S) = T := ⟨_, rfl⟩
                    rw [hT] at hTl hy hset hSX
                    have HT := Lib.hid (And.intro hTl (And.intro hy hset))
                    obtain ⟨oS, cS, rfl, hoS⟩ := own_slice hSX.2.2
                    obtain ⟨gS, rfl⟩ := hoS (by omega)
                    rw [hTl] at hSX
                    have hmS : mS ≤ 512 := by have h1 : T.length ≤ S.length + 1 := by { rw [← hT]; split <;> simp }; omega
                    clear hoS hTl hy hset hT x0 x1 xf0 xf1
                    obtain ⟨Y, rfl⟩ : ∃ Y, Y = wc := ⟨_, rfl⟩
                    have hYs : w.heap.size + 3 ≤ Y.heap.size := by have := hSX.1.lt; omega
                    have x0 : Y.cell? ⟨w.heap.size + 2, 0, none⟩ = some (.slice ol L.length cl) := hSX.1.cell 0
                    have x1 : Y.cell? ⟨w.heap.size + 2, 1, none⟩ = some (.slice (some ⟨gS, 0, none⟩) (mS + 1) cS) := hSX.1.cell 1
                    have HX := Lib.hid (And.intro hRX hSX)
                    clear hRX hSX
                    have e8 : ((c : Int) != (c : Int)) = false := by simp
                    have hgE := okf_let (st := ⟨L, S, false, a⟩) (c := c) rfl HF.out.2 HC5.out
                    have hc90 : decide (c ≤ 90) = false := decide_eq_false (by have h := HF.out.2; unfold isLet at h; simp at h; omega)
                    have hrun2 := HRUN.out.1.2 hgE
                    rw [nextf_let HF.out.2, HLOOK.out.2.1, ← HF.out.1, hc90] at hrun2
                    have hok2 := HM.out.2.2.1.next hgE
                    rw [nextf_let HF.out.2, HLOOK.out.2.1, ← HF.out.1, hc90] at hok2
                    have HBG := Lib.hid (And.intro hok2 hrun2)
                    clear hgE hrun2 hok2 hc90
                    as_aux_lemma =>
                      have xl0 : (Y.alloc (.cells #[.int .i64 F, .int .i64 0] 79)).cell? ⟨w.heap.size + 2, 0, none⟩ = some (.slice ol L.length cl) := (HX.out.2.alloc (.cells #[.int .i64 F, .int .i64 0] 79)).1.cell 0
                      have hn1 := World.alloc_heap_new (Y.alloc (.cells #[.int .i64 F, .int .i64 0] 79)) (.cells #[.int .i64 F, .int .i64 0] 79)
                      rw [World.size_alloc] at hn1
                      have hXX := (HX.out.2.alloc (.cells #[.int .i64 F, .int .i64 0] 79)).alloc (.cells #[.int .i64 F, .int .i64 0] 79)
                      have hRR := (HX.out.1.kept (World.grownBy_alloc Y (.cells #[.int .i64 F, .int .i64 0] 79) none) (by simp)).kept (World.grownBy_alloc _ (.cells #[.int .i64 F, .int .i64 0] 79) none) (by simp)
                      have HXX := Lib.hid (And.intro hXX (And.intro hRR hn1))
                      clear hn1 hXX hRR
                      go_upto_region 35 with (at_builtin; refine wpList_append_own _ rfl _ _ 22 rfl (w.heap.size + 3) 79 j0 (.agg #[.int .i64 0, .int .i64 0]) 2 16 Try.underlying22 hj hy0 hy1 hy2 rfl (by decide) _ _ _ rfl HXX.out.1.2.1 ⟨Y.heap.size + 1, 0, none⟩ 1 1 [.int .i64 F, .int .i64 0] rfl rfl (World.news_of_block (cs := #[.int .i64 F, .int .i64 0]) (t := 79) (fr := (0, 0)) HXX.out.2.2) (fun x hx => by simp at hx; rcases hx with rfl | rfl <;> rfl) (by unfold maxLen; omega) (by omega) (by simp; omega) ?_; intro v3 w3 hown3 hg3 _; have k3 := HXX.out.1.1.kept hg3 (fun e => by have := (HXX.out.1.2.1.lt _ e.symm).1; omega); have k30 := k3.cell 0; have k31 := k3.frozen 0; have hS3 := SchB.putL (L' := L ++ [⟨F, 0⟩]) HXX.out.1 (by omega) hg3 (by rw [List.flatMap_append]; exact hown3) (by simp); have hR3 := (HXX.out.2.1.kept hg3 (fun r e => by have := (HXX.out.1.2.1.lt _ e).1; omega)).kept (grownBy_setCell w3 (w.heap.size + 2) 0 v3) (fun r e => by cases e; omega); have HW3 := Lib.hid (And.intro hR3 hS3); obtain ⟨o3, c3, rfl, _⟩ := own_slice hown3; clear k3 hS3 hR3 hown3 hg3)
                      have hRX := HW3.out.1
                      have hSX := HW3.out.2
                      obtain ⟨V, hV⟩ : ∃ V, w3.setCell ⟨w.heap.size + 2, 0, none⟩ (.slice o3 (L.length + 1) c3) = V := ⟨_, rfl⟩
                      rw [hV] at hRX hSX
                      rw [show w3.setCell ⟨w.heap.size + 1 + 1, 0, none⟩ (.slice o3 (L.length + 1) c3) = V from hV]
                      clear hV k30 k31 x0 x1 xl0
                      have t1 : V.cell? ⟨w.heap.size + 2, 1, none⟩ = some (.slice (some ⟨gS, 0, none⟩) (mS + 1) cS) := hSX.1.cell 1
                      have hTl := HT.out.1
                      have hoX : V.ownsRow (w.heap.size + 3) 3 1 (.slice (some ⟨gS, 0, none⟩) (mS + 1) cS) (mS + 1) (T.flatMap encI) := by have h := hSX.2.2; rwa [hTl] at h
                      have t2 : V.cell? ⟨gS, mS, none⟩ = some (.int .i64 y) := (hoX.cellAt mS (by omega)).trans (by have := fl_get (enc := encI) encI_len HT.out.2.1 (j := 0) (by decide); simpa [encI] using this)
                      have t3 : V.frozen? ⟨gS, mS, none⟩ = false := own_freeK hoX mS
                      have hgS := (hSX.2.2.lt gS rfl).1
                      have hSY := hSX.setS (u := .int .i64 (y + 1)) (by omega) (show mS < T.length by omega) (by simp) (encI_set (by omega) (y + 1))
                      have hRY := hRX.kept (grownBy_setCell V gS mS (.int .i64 (y + 1))) (fun r e => by cases e; omega)
                      have HW := Lib.hid (And.intro hRY hSY)
                      clear hRX hSX hoX hSY hRY hTl hgS
                      go_wp2
                      go_roundw
                      case rel => exact ⟨_, _, false, pos + 1, by go_num, by omega, by rw [Nat.add_sub_cancel, HRUN.out.2, show (pos + 1 == 0) = false from rfl, show (c == 32) = false from beq_eq_false_iff_ne.2 (by omega)]; rfl, HBG.out.1, HBG.out.2, HW.out.1, _, _, HT.out.2.2 ▸ HW.out.2⟩
                      case measure => simp [intOf]; omega
    · obtain rfl : pos = s.size := by omega
      rw [Nat.sub_self] at hrun
      have hrn : (if (false || (a && !decide (s.size = 0))) = true then ((⟨[], []⟩ : Sc), (160 : Int), (s.size : Int)) else (⟨L, S⟩, 0, 0)) = R := hrun
      have HRN := Lib.hid hrn
      clear hrun hrn hM hS hok ha hol hos hps
      by_cases h0 : s.size = 0
      · have hZ : R = (⟨L, S⟩, 0, 0) := by rw [← HRN.out, decide_eq_true h0]; simp
        have g0 : decide ((0 : Int) < (s.size : Int)) = false := decide_eq_false (by omega)
        have g1 : decide (0 < s.size) = false := decide_eq_false (by omega)
        clear h0
        as_aux_lemma =>
          have HZ := Lib.hid hZ
          clear hZ
          have y0 := HM.out.1.2.1.cell 0
          have y1 := HM.out.1.2.1.cell 1
          have yf0 := HM.out.1.2.1.frozen 0
          have yf1 := HM.out.1.2.1.frozen 1
          have z0 := HM.out.1.2.2.cell 0
          have z1 := HM.out.1.2.2.cell 1
          have zf0 := HM.out.1.2.2.frozen 0
          have zf1 := HM.out.1.2.2.frozen 1
          simp only [List.getElem?_toArray, List.getElem?_cons_succ, List.getElem?_cons_zero] at y0 y1 z0 z1
          go_wp2
          obtain ⟨q0, q1, q2, q3, qB⟩ := endF_all HM.out.1 (.slice ol L.length cl) (.slice os S.length cs) (.int .i64 0) (.int .i64 0)
          have HQ := Lib.hid (endF_own wr w.heap.size (.slice ol L.length cl) (.slice os S.length cs) (.int .i64 0) (.int .i64 0))
          obtain ⟨F, hF⟩ : ∃ F, endF wr w.heap.size (.slice ol L.length cl) (.slice os S.length cs) (.int .i64 0) (.int .i64 0) = F := ⟨_, rfl⟩
          rw [hF] at q0 q1 q2 q3 qB HQ
          rw [show ((((wr.setCell ⟨w.heap.size, 0, none⟩ (.slice ol L.length cl)).setCell ⟨w.heap.size, 1, none⟩ (.slice os S.length cs)).setCell ⟨w.heap.size + 1, 0, none⟩ (.int .i64 0)).setCell ⟨w.heap.size + 1, 1, none⟩ (.int .i64 0)) = F from hF]
          clear hF
          exact bodyPost_ret (v := .tuple #[.agg #[.slice ol L.length cl, .slice os S.length cs], .agg #[.int .i64 0, .int .i64 0]]) (by simp [results, Try.f28, go_sem, q0, q1, q2, q3]) rfl ⟨_, _, by rw [HZ.out], by rw [HZ.out]; exact HQ.out _ _ _ _ _ _ HM.out.2.1.2.1 (by omega), by rw [HZ.out]; exact HQ.out _ _ _ _ _ _ HM.out.2.1.2.2 (by omega), qB⟩
      have g0 : decide ((0 : Int) < (s.size : Int)) = true := decide_eq_true (by omega)
      have g1 : decide (0 < s.size) = true := decide_eq_true (by omega)
      have hg1 := bt_get s (s.size - 1) (by omega)
      have j1 : (0 : Int) ≤ (s.size : Int) - 1 := by omega
      have j2 : ((s.size : Int) - 1).toNat = s.size - 1 := by omega
      have j3 : s.size - 1 < s.size := by omega
      have j4 : (s.size : Int) - 1 < (s.size : Int) := by omega
      have hat : a = (bt s (s.size - 1) == 32) := by rw [HM.out.2.2.2, show (s.size == 0) = false from beq_eq_false_iff_ne.2 h0]; rfl
      have hdz : decide (s.size = 0) = false := decide_eq_false h0
      obtain ⟨b, hb⟩ : ∃ b, bt s (s.size - 1) = b := ⟨_, rfl⟩
      rw [hb] at hg1 hat
      by_cases h32 : b = 32
      · have hZ : R = (⟨[], []⟩, 160, (s.size : Int)) := by rw [← HRN.out, hdz, hat, h32]; rfl
        have e32 : ((b : Int) == 32) = true := by rw [h32]; rfl
        clear hb hat hdz h32
        as_aux_lemma =>
          have HZ := Lib.hid (hZ)
          clear hZ
          go_wp2_with (go_at_call 66; refine (wrong_any _ _ _).mono ?_; rintro e P2 ⟨rfl, hB2⟩; have hR2 := HM.out.1.below hB2; have y0 := hR2.2.1.cell 0; have y1 := hR2.2.1.cell 1; have yf0 := hR2.2.1.frozen 0; have yf1 := hR2.2.1.frozen 1; have z0 := hR2.2.2.cell 0; have z1 := hR2.2.2.cell 1; have zf0 := hR2.2.2.frozen 0; have zf1 := hR2.2.2.frozen 1; simp only [List.getElem?_toArray, List.getElem?_cons_succ, List.getElem?_cons_zero] at y0 y1 z0 z1; have HR2 := Lib.hid hR2; clear hB2 hR2)
          obtain ⟨q0, q1, q2, q3, qB⟩ := endF_all HR2.out (.slice none 0 0) (.slice none 0 0) (.int .i64 160) (.int .i64 s.size)
          obtain ⟨F, hF⟩ : ∃ F, endF P2 w.heap.size (.slice none 0 0) (.slice none 0 0) (.int .i64 160) (.int .i64 s.size) = F := ⟨_, rfl⟩
          rw [hF] at q0 q1 q2 q3 qB
          rw [show ((((P2.setCell ⟨w.heap.size, 0, none⟩ (.slice none 0 0)).setCell ⟨w.heap.size, 1, none⟩ (.slice none 0 0)).setCell ⟨w.heap.size + 1, 0, none⟩ (.int .i64 160)).setCell ⟨w.heap.size + 1, 1, none⟩ (.int .i64 s.size)) = F from hF]
          clear hF
          exact bodyPost_ret (v := .tuple #[.agg #[.slice none 0 0, .slice none 0 0], .agg #[.int .i64 160, .int .i64 s.size]]) (by simp [results, Try.f28, go_sem, q0, q1, q2, q3]) rfl (RefPost.bad HZ.out qB)
      have hZ : R = (⟨L, S⟩, 0, 0) := by rw [← HRN.out, hdz, hat, show (b == 32) = false from beq_eq_false_iff_ne.2 h32]; rfl
      have e32 : ((b : Int) == 32) = false := by rw [beq_eq_false_iff_ne]; omega
      clear hb hat hdz h32
      as_aux_lemma =>
        have HZ := Lib.hid hZ
        clear hZ
        have y0 := HM.out.1.2.1.cell 0
        have y1 := HM.out.1.2.1.cell 1
        have yf0 := HM.out.1.2.1.frozen 0
        have yf1 := HM.out.1.2.1.frozen 1
        have z0 := HM.out.1.2.2.cell 0
        have z1 := HM.out.1.2.2.cell 1
        have zf0 := HM.out.1.2.2.frozen 0
        have zf1 := HM.out.1.2.2.frozen 1
        simp only [List.getElem?_toArray, List.getElem?_cons_succ, List.getElem?_cons_zero] at y0 y1 z0 z1
        go_wp2
        obtain ⟨q0, q1, q2, q3, qB⟩ := endF_all HM.out.1 (.slice ol L.length cl) (.slice os S.length cs) (.int .i64 0) (.int .i64 0)
        have HQ := Lib.hid (endF_own wr w.heap.size (.slice ol L.length cl) (.slice os S.length cs) (.int .i64 0) (.int .i64 0))
        obtain ⟨F, hF⟩ : ∃ F, endF wr w.heap.size (.slice ol L.length cl) (.slice os S.length cs) (.int .i64 0) (.int .i64 0) = F := ⟨_, rfl⟩
        rw [hF] at q0 q1 q2 q3 qB HQ
        rw [show ((((wr.setCell ⟨w.heap.size, 0, none⟩ (.slice ol L.length cl)).setCell ⟨w.heap.size, 1, none⟩ (.slice os S.length cs)).setCell ⟨w.heap.size + 1, 0, none⟩ (.int .i64 0)).setCell ⟨w.heap.size + 1, 1, none⟩ (.int .i64 0)) = F from hF]
        clear hF
        exact bodyPost_ret (v := .tuple #[.agg #[.slice ol L.length cl, .slice os S.length cs], .agg #[.int .i64 0, .int .i64 0]]) (by simp [results, Try.f28, go_sem, q0, q1, q2, q3]) rfl ⟨_, _, by rw [HZ.out], by rw [HZ.out]; exact HQ.out _ _ _ _ _ _ HM.out.2.1.2.1 (by omega), by rw [HZ.out]; exact HQ.out _ _ _ _ _ _ HM.out.2.1.2.2 (by omega), qB⟩
end Go.Proofs.Ytdcmkiggnmajgaa
