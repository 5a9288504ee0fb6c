/- Stage 27: Compose. -/
import Derived.Test.YtpijooajbgeejaaJp
namespace Go.Proofs.Ytpijooajbgeejaa
set_option linter.unusedVariables false
set_option linter.unusedSimpArgs false
open Go Go.RowKit Go.Shelf
set_option maxRecDepth 100000

/-- What Compose hands back of two changes that may be laid together. -/
def CompR (l1 l2 : List Sp) (w : World) (e : Ending) (w' : World) : Prop :=
  (compA (atL (plainM l1)) (atL (plainM l2)) = none ∧ e = .returned (.tuple #[.slice none 0 0, .int .i64 270]) ∧ Below w.heap.size w w') ∨
  (∃ C v, compA (atL (plainM l1)) (atL (plainM l2)) = some C ∧ C.length ≤ 1000000 ∧ e = .returned (.tuple #[v, .int .i64 0]) ∧ w'.ownsRow w.heap.size 45 3 v (nfA C).length ((nfA C).flatMap encS) ∧ Below w.heap.size w w')
set_option maxHeartbeats 16000000 in
theorem compose_of (o1 o2 : Option Addr) (l1 l2 : List Sp) (c1 c2 F T G : Nat) (hn1 : l1.length ≤ 9223372036854775807) (ho1 : OkS l1) (hn2 : l2.length ≤ 9223372036854775807) (ho2 : OkS l2) (hz1 : sizeG l1 0 0 = some (F, T)) (hz2 : sizeG l2 0 0 = some (T, G)) (w : World) (hr1 : RowAt w encS 3 o1 l1) (hr2 : RowAt w encS 3 o2 l2) :
    Calls Try.prog 9 #[.slice o1 l1.length c1, .slice o2 l2.length c2] w (CompR l1 l2 w) := by
  have cM := may2_any o1 o2 l1 l2 c1 c2 hn1 ho1 hn2 ho2 w hr1 hr2
  rw [hz1, hz2] at cM
  have p1 := plain_cu hz1
  have p2 := plain_cu hz2
  have cS1 := fun X (hX : Below w.heap.size w X) => sizes_any l1 o1 c1 hn1 ho1 X (hr1.below encS_len (by decide) hX)
  have cS2 := fun X (hX : Below w.heap.size w X) => sizes_any l2 o2 c2 hn2 ho2 X (hr2.below encS_len (by decide) hX)
  rw [hz1] at cS1
  rw [hz2] at cS2
  have cP1 := fun X (hX : Below w.heap.size w X) => plain_any l1 o1 c1 F T hn1 hz1 X (hr1.below encS_len (by decide) hX)
  have cP2 := fun X (hX : Below w.heap.size w X) => plain_any l2 o2 c2 T G hn2 hz2 X (hr2.below encS_len (by decide) hX)
  have HP := Lib.hid (And.intro p1 p2)
  have e0 : ((T : Int) == (T : Int)) = true := beq_self_eq_true _
  clear hz1 hz2 p1 p2 hr1 hr2 ho1 ho2
  go_enter Try.func9, Try.ntmps9
  go_wp2
  refine wp_scope_straight ?_
  go_wp2_with (fail)
  refine cM.mono ?_
  rintro e W1 ⟨rfl, hB1⟩
  simp only [Option.isSome_some, Bool.and_self]
  have H1 := Lib.hid hB1
  clear hB1 cM
  go_wp2_with (fail)
  refine (cS1 _ H1.out).mono ?_
  rintro e W2 ⟨rfl, hB2⟩
  simp only [szV]
  have H2 := Lib.hid (H1.out.trans (hB2.mono H1.out.size))
  clear hB2 H1
  go_wp2_with (fail)
  refine (cS2 _ H2.out).mono ?_
  rintro e W3 ⟨rfl, hB3⟩
  simp only [szV]
  have H3 := Lib.hid (H2.out.trans (hB3.mono H2.out.size))
  clear hB3 H2
  go_wp2_with (fail)
  refine (cP1 _ H3.out).mono ?_
  rintro e W4 ⟨v1, rfl, hw1, hB4⟩
  obtain ⟨a1, k1, rfl, _⟩ := own_slice hw1
  have y1 := (own_slice hw1)
  have H4 := Lib.hid (And.intro (H3.out.trans (hB4.mono H3.out.size)) hw1)
  clear hB4 hw1 y1
  go_wp2_with (fail)
  refine (cP2 _ H4.out.1).mono ?_
  rintro e W5 ⟨v2, rfl, hw2, hB5⟩
  obtain ⟨a2, k2, rfl, _⟩ := own_slice hw2
  have i1 := row_caps H4.out.2
  have i2 := row_caps hw2
  have H5 := Lib.hid (And.intro (H4.out.1.trans (hB5.mono H4.out.1.size)) (And.intro (RowAt.of_own encS_len (own_below H4.out.2 hB5) rfl) (RowAt.of_own encS_len hw2 rfl)))
  have H6 := Lib.hid (And.intro i1 i2)
  clear hB5 hw2 H4 H3 cS1 cS2 cP1 cP2 i1 i2
  go_wp2
  refine wp_label ?_
  go_wp2
  have hI := co_start H5.out.2.1 H5.out.2.2 H6.out.1 H6.out.2 HP.out.1 HP.out.2
  have HI := Lib.hid hI
  have HW := Lib.hid H5.out.1
  clear hI
  go_loopw [] (fun W => CoI W5 W5.heap.size (W5.heap.size + 1) (W5.heap.size + 1 + 1) (W5.heap.size + 1 + 1 + 1) (atL (plainM l1)) (atL (plainM l2)) W) (fun W => muC W W5.heap.size + muC W (W5.heap.size + 1))
  case atStart => exact HI.out
  case round =>
    obtain ⟨m1, u1, m2, u2, A, hS, hP⟩ := hrel
    have HA : A.length ≤ 1000000 := by have := hP.ln; omega
    have lo1 := (left_ok hP.v1).2.2.2
    have lo2 := (left_ok hP.v2).2.2.2
    have HS := Lib.hid hS
    have HQ := Lib.hid hP
    clear hS hP HI
    have hkk := kind_lt HQ.out.v1
    have hkk2 := kind_lt HQ.out.v2
    by_cases hk1 : kindC m1 = 2
    · clear hkk hkk2
      have HK1 := Lib.hid hk1
      have hne := ne_of_kind (l := m1) (by omega)
      obtain ⟨n, hL⟩ : ∃ n, leftC u1 m1 = n := ⟨_, rfl⟩
      have hn0 : 0 < n := by
        rcases kind_rest HQ.out.v1 with q | q | q | q
        · omega
        · omega
        · have := q.2.1; omega
        · omega
      rw [hL] at lo1
      have HL1 := Lib.hid hL
      have HN : Hid (m1 ≠ [] ∧ True) := Lib.hid ⟨hne, trivial⟩
      have HM : Hid (n ≤ n ∧ True) := Lib.hid ⟨Nat.le_refl _, trivial⟩
      have H0 := Lib.hid hn0
      clear hk1 hne hL hn0
      go_wp2_with (fail)
      refine (st_kind1 HS.out).mono ?_
      rintro e V1 ⟨rfl, hS⟩
      have G1 := Lib.hid hS
      clear hS 
      rw [HK1.out]
      go_wp2_with (fail)
      refine (st_left1 G1.out HQ.out.v1).mono ?_
      rintro e V2 ⟨rfl, hS⟩
      have G2 := Lib.hid hS
      clear hS G1
      rw [HL1.out]
      go_wp2_with (fail)
      refine (st_take1 G2.out HQ.out.v1 (n := n) HN.out.1 (by rw [HL1.out]; exact HM.out.1)).mono ?_
      rintro e V3 ⟨s, ls, us, rfl, hS, hT⟩
      have G3 := Lib.hid hS
      have T1 := Lib.hid hT
      clear hS hT G2
      have hP2 := co_x2 HQ.out T1.out HK1.out
      have HP2 := Lib.hid hP2
      have hs6 : s.size ≤ 1000000 := by have := hP2.2; omega
      clear hP2
      go_wp2_with (fail)
      refine (st_drops G3.out HA s hs6).mono ?_
      rintro e V4 ⟨rfl, hS⟩
      have G4 := Lib.hid hS
      clear hS G3
      go_wp2
      go_roundw
      case rel => exact ⟨_, _, _, _, _, G4.out, HP2.out.1⟩
      case measure =>
        have g := st_mu G4.out
        have g0 := st_mu HS.out
        have g1 := T1.out.2.2 H0.out
        omega
    · by_cases hk2 : kindC m2 = 3
      · clear hkk hkk2
        have HK2 := Lib.hid hk2
        obtain ⟨q1, hq1⟩ : ∃ q, kindC m1 = q := ⟨_, rfl⟩
        have e12 : ((q1 : Int) == 2) = false := by rw [beq_eq_false_iff_ne]; omega
        have e12' : (q1 == 2) = false := by rw [beq_eq_false_iff_ne]; omega
        have HK1 := Lib.hid hq1
        have HK1' := Lib.hid hk1
        have hne := ne_of_kind (l := m2) (by omega)
        obtain ⟨n, hL⟩ : ∃ n, leftC u2 m2 = n := ⟨_, rfl⟩
        have hn0 : 0 < n := by
          rcases kind_rest HQ.out.v2 with q | q | q | q
          · omega
          · omega
          · omega
          · have := q.2.1; omega
        rw [hL] at lo2
        have HL2 := Lib.hid hL
        have HN : Hid (True ∧ m2 ≠ []) := Lib.hid ⟨trivial, hne⟩
        have HM : Hid (True ∧ n ≤ n) := Lib.hid ⟨trivial, Nat.le_refl _⟩
        have H0 := Lib.hid hn0
        clear hk1 hk2 hne hL hn0 hq1
        go_wp2_with (fail)
        refine (st_kind1 HS.out).mono ?_
        rintro e V1 ⟨rfl, hS⟩
        have G1 := Lib.hid hS
        clear hS 
        rw [HK1.out]
        go_wp2_with (fail)
        refine (st_kind2 G1.out).mono ?_
        rintro e V2 ⟨rfl, hS⟩
        have G2 := Lib.hid hS
        clear hS G1
        rw [HK2.out]
        go_wp2_with (fail)
        refine (st_left2 G2.out HQ.out.v2).mono ?_
        rintro e V3 ⟨rfl, hS⟩
        have G3 := Lib.hid hS
        clear hS G2
        rw [HL2.out]
        go_wp2_with (fail)
        refine (st_take2 G3.out HQ.out.v2 (n := n) HN.out.2 (by rw [HL2.out]; exact HM.out.2)).mono ?_
        rintro e V4 ⟨s, ls, us, rfl, hS, hT⟩
        have G4 := Lib.hid hS
        have T2 := Lib.hid hT
        clear hS hT G3
        have hP2 := co_y3 HQ.out T2.out HK1'.out HK2.out
        have HP2 := Lib.hid hP2
        have hs6 : s.size ≤ 1000000 := by have := hP2.2; omega
        clear hP2
        go_wp2_with (fail)
        refine (st_puts G4.out HA s hs6).mono ?_
        rintro e V5 ⟨rfl, hS⟩
        have G5 := Lib.hid hS
        clear hS G4
        go_wp2
        go_roundw
        case rel => exact ⟨_, _, _, _, _, G5.out, HP2.out.1⟩
        case measure =>
          have g := st_mu G5.out
          have g0 := st_mu HS.out
          have g1 := T2.out.2.2 H0.out
          omega
      · rcases hkk with hk1 | hk1 | hk1 | hk1
        · clear hkk2
          obtain ⟨q2, hq2⟩ : ∃ q, kindC m2 = q := ⟨_, rfl⟩
          have e23 : ((q2 : Int) == 3) = false := by rw [beq_eq_false_iff_ne]; omega
          have e23' : (q2 == 3) = false := by rw [beq_eq_false_iff_ne]; omega
          have HE := Lib.hid (co_end HQ.out hk1 hk2)
          have HK1 := Lib.hid hk1
          have HK2 := Lib.hid hq2
          clear hk1 hk2 hq2
          go_wp2_with (fail)
          refine (st_kind1 HS.out).mono ?_
          rintro e V1 ⟨rfl, hS⟩
          have G1 := Lib.hid hS
          clear hS 
          rw [HK1.out]
          go_wp2_with (fail)
          refine (st_kind2 G1.out).mono ?_
          rintro e V2 ⟨rfl, hS⟩
          have G2 := Lib.hid hS
          clear hS G1
          rw [HK2.out]
          go_wp2_with (fail)
          refine (st_kind1 G2.out).mono ?_
          rintro e V3 ⟨rfl, hS⟩
          have G3 := Lib.hid hS
          clear hS G2
          rw [HK1.out]
          go_wp2_with (fail)
          refine (st_end G3.out HA).mono ?_
          rintro e V ⟨v, rfl, hrow, hB⟩
          have HR := Lib.hid (And.intro hrow hB)
          clear hrow hB
          go_wp2
          refine bodyPost_ret (results_tmp2 rfl _ _ _) rfl ?_
          exact .inr ⟨A, v, HE.out, HA, rfl, own_base HR.out.1 (by have := HW.out.size; omega), HW.out.trans (HR.out.2.mono HW.out.size)⟩
        · have hk2 : kindC m2 = 1 ∨ kindC m2 = 2 := by
            have := (co_no0 HQ.out (by omega) (by omega)).2.2.2.2
            omega
          clear hkk2
          rcases hk2 with hk2 | hk2
          · skip
            have hne := co_no0 HQ.out (by omega) (by omega)
            obtain ⟨L1, hL1⟩ : ∃ n, leftC u1 m1 = n := ⟨_, rfl⟩
            obtain ⟨L2, hL2⟩ : ∃ n, leftC u2 m2 = n := ⟨_, rfl⟩
            obtain ⟨n, hn⟩ : ∃ n, min L1 L2 = n := ⟨_, rfl⟩
            have jm : (if L2 < L1 then (L2 : Int) else (L1 : Int)) = (n : Int) := by split <;> omega
            have hn0 : 0 < n ∧ n ≤ L1 ∧ n ≤ L2 := by rw [hL1, hL2] at hne; omega
            rw [hL1] at lo1
            rw [hL2] at lo2
            have HK1 := Lib.hid hk1
            have HK2 := Lib.hid hk2
            have HL1 := Lib.hid hL1
            have HL2 := Lib.hid hL2
            have HN : Hid (m1 ≠ [] ∧ m2 ≠ []) := Lib.hid ⟨hne.1, hne.2.1⟩
            have HM : Hid (n ≤ L1 ∧ n ≤ L2) := Lib.hid hn0.2
            have H0 := Lib.hid hn0.1
            have n6 : n ≤ 200000 := by omega
            clear hk1 hk2 hne hL1 hL2 hn hn0
            go_wp2_with (fail)
            refine (st_kind1 HS.out).mono ?_
            rintro e V1 ⟨rfl, hS⟩
            have G1 := Lib.hid hS
            clear hS 
            rw [HK1.out]
            go_wp2_with (fail)
            refine (st_kind2 G1.out).mono ?_
            rintro e V2 ⟨rfl, hS⟩
            have G2 := Lib.hid hS
            clear hS G1
            rw [HK2.out]
            go_wp2_with (fail)
            refine (st_kind1 G2.out).mono ?_
            rintro e V3 ⟨rfl, hS⟩
            have G3 := Lib.hid hS
            clear hS G2
            rw [HK1.out]
            go_wp2_with (fail)
            refine (st_left1 G3.out HQ.out.v1).mono ?_
            rintro e V4 ⟨rfl, hS⟩
            have G4 := Lib.hid hS
            clear hS G3
            rw [HL1.out]
            go_wp2_with (fail)
            refine (st_left2 G4.out HQ.out.v2).mono ?_
            rintro e V5 ⟨rfl, hS⟩
            have G5 := Lib.hid hS
            clear hS G4
            rw [HL2.out]
            go_wp2_with (fail)
            refine (st_kind1 G5.out).mono ?_
            rintro e V6 ⟨rfl, hS⟩
            have G6 := Lib.hid hS
            clear hS G5
            rw [HK1.out]
            go_wp2_with (fail)
            refine (st_kind2 G6.out).mono ?_
            rintro e V7 ⟨rfl, hS⟩
            have G7 := Lib.hid hS
            clear hS G6
            rw [HK2.out]
            go_wp2_with (fail)
            refine (st_take1 G7.out HQ.out.v1 (n := n) HN.out.1 (by rw [HL1.out]; exact HM.out.1)).mono ?_
            rintro e V8 ⟨s, ls, us, rfl, hS, hT⟩
            have G8 := Lib.hid hS
            have T1 := Lib.hid hT
            clear hS hT G7
            go_wp2_with (fail)
            refine (st_take2 G8.out HQ.out.v2 (n := n) HN.out.2 (by rw [HL2.out]; exact HM.out.2)).mono ?_
            rintro e V9 ⟨t, lt, ut, rfl, hS, hT⟩
            have G9 := Lib.hid hS
            have T2 := Lib.hid hT
            clear hS hT G8
            have hP2 := co_11 HQ.out T1.out T2.out HK1.out HK2.out
            have HP2 := Lib.hid hP2
            have hs6 : n ≤ 65536 := hP2.2
            clear hP2
            go_wp2_with (fail)
            refine (st_keep G9.out HA n hs6).mono ?_
            rintro e V10 ⟨rfl, hS⟩
            have G10 := Lib.hid hS
            clear hS G9
            go_wp2
            go_roundw
            case rel => exact ⟨_, _, _, _, _, G10.out, HP2.out.1⟩
            case measure =>
              have g := st_mu G10.out
              have g0 := st_mu HS.out
              have g1 := T1.out.2.2 H0.out
              have g2 := T2.out.2.2 H0.out
              omega
          · skip
            have hne := co_no0 HQ.out (by omega) (by omega)
            obtain ⟨L1, hL1⟩ : ∃ n, leftC u1 m1 = n := ⟨_, rfl⟩
            obtain ⟨L2, hL2⟩ : ∃ n, leftC u2 m2 = n := ⟨_, rfl⟩
            obtain ⟨n, hn⟩ : ∃ n, min L1 L2 = n := ⟨_, rfl⟩
            have jm : (if L2 < L1 then (L2 : Int) else (L1 : Int)) = (n : Int) := by split <;> omega
            have hn0 : 0 < n ∧ n ≤ L1 ∧ n ≤ L2 := by rw [hL1, hL2] at hne; omega
            rw [hL1] at lo1
            rw [hL2] at lo2
            have HK1 := Lib.hid hk1
            have HK2 := Lib.hid hk2
            have HL1 := Lib.hid hL1
            have HL2 := Lib.hid hL2
            have HN : Hid (m1 ≠ [] ∧ m2 ≠ []) := Lib.hid ⟨hne.1, hne.2.1⟩
            have HM : Hid (n ≤ L1 ∧ n ≤ L2) := Lib.hid hn0.2
            have H0 := Lib.hid hn0.1
            have n6 : n ≤ 200000 := by omega
            clear hk1 hk2 hne hL1 hL2 hn hn0
            go_wp2_with (fail)
            refine (st_kind1 HS.out).mono ?_
            rintro e V1 ⟨rfl, hS⟩
            have G1 := Lib.hid hS
            clear hS 
            rw [HK1.out]
            go_wp2_with (fail)
            refine (st_kind2 G1.out).mono ?_
            rintro e V2 ⟨rfl, hS⟩
            have G2 := Lib.hid hS
            clear hS G1
            rw [HK2.out]
            go_wp2_with (fail)
            refine (st_kind1 G2.out).mono ?_
            rintro e V3 ⟨rfl, hS⟩
            have G3 := Lib.hid hS
            clear hS G2
            rw [HK1.out]
            go_wp2_with (fail)
            refine (st_left1 G3.out HQ.out.v1).mono ?_
            rintro e V4 ⟨rfl, hS⟩
            have G4 := Lib.hid hS
            clear hS G3
            rw [HL1.out]
            go_wp2_with (fail)
            refine (st_left2 G4.out HQ.out.v2).mono ?_
            rintro e V5 ⟨rfl, hS⟩
            have G5 := Lib.hid hS
            clear hS G4
            rw [HL2.out]
            go_wp2_with (fail)
            refine (st_kind1 G5.out).mono ?_
            rintro e V6 ⟨rfl, hS⟩
            have G6 := Lib.hid hS
            clear hS G5
            rw [HK1.out]
            go_wp2_with (fail)
            refine (st_kind2 G6.out).mono ?_
            rintro e V7 ⟨rfl, hS⟩
            have G7 := Lib.hid hS
            clear hS G6
            rw [HK2.out]
            go_wp2_with (fail)
            refine (st_take1 G7.out HQ.out.v1 (n := n) HN.out.1 (by rw [HL1.out]; exact HM.out.1)).mono ?_
            rintro e V8 ⟨s, ls, us, rfl, hS, hT⟩
            have G8 := Lib.hid hS
            have T1 := Lib.hid hT
            clear hS hT G7
            go_wp2_with (fail)
            refine (st_take2 G8.out HQ.out.v2 (n := n) HN.out.2 (by rw [HL2.out]; exact HM.out.2)).mono ?_
            rintro e V9 ⟨t, lt, ut, rfl, hS, hT⟩
            have G9 := Lib.hid hS
            have T2 := Lib.hid hT
            clear hS hT G8
            have hP2 := co_12 HQ.out T1.out T2.out HK1.out HK2.out
            have HP2 := Lib.hid hP2
            have hs6 : t.size ≤ 1000000 := by have := hP2.2; omega
            clear hP2
            go_wp2_with (fail)
            refine (st_drops G9.out HA t hs6).mono ?_
            rintro e V10 ⟨rfl, hS⟩
            have G10 := Lib.hid hS
            clear hS G9
            go_wp2
            go_roundw
            case rel => exact ⟨_, _, _, _, _, G10.out, HP2.out.1⟩
            case measure =>
              have g := st_mu G10.out
              have g0 := st_mu HS.out
              have g1 := T1.out.2.2 H0.out
              have g2 := T2.out.2.2 H0.out
              omega
        · omega
        · have hk2 : kindC m2 = 1 ∨ kindC m2 = 2 := by
            have := (co_no0 HQ.out (by omega) (by omega)).2.2.2.2
            omega
          clear hkk2
          rcases hk2 with hk2 | hk2
          · skip
            have hne := co_no0 HQ.out (by omega) (by omega)
            obtain ⟨L1, hL1⟩ : ∃ n, leftC u1 m1 = n := ⟨_, rfl⟩
            obtain ⟨L2, hL2⟩ : ∃ n, leftC u2 m2 = n := ⟨_, rfl⟩
            obtain ⟨n, hn⟩ : ∃ n, min L1 L2 = n := ⟨_, rfl⟩
            have jm : (if L2 < L1 then (L2 : Int) else (L1 : Int)) = (n : Int) := by split <;> omega
            have hn0 : 0 < n ∧ n ≤ L1 ∧ n ≤ L2 := by rw [hL1, hL2] at hne; omega
            rw [hL1] at lo1
            rw [hL2] at lo2
            have HK1 := Lib.hid hk1
            have HK2 := Lib.hid hk2
            have HL1 := Lib.hid hL1
            have HL2 := Lib.hid hL2
            have HN : Hid (m1 ≠ [] ∧ m2 ≠ []) := Lib.hid ⟨hne.1, hne.2.1⟩
            have HM : Hid (n ≤ L1 ∧ n ≤ L2) := Lib.hid hn0.2
            have H0 := Lib.hid hn0.1
            have n6 : n ≤ 200000 := by omega
            clear hk1 hk2 hne hL1 hL2 hn hn0
            go_wp2_with (fail)
            refine (st_kind1 HS.out).mono ?_
            rintro e V1 ⟨rfl, hS⟩
            have G1 := Lib.hid hS
            clear hS 
            rw [HK1.out]
            go_wp2_with (fail)
            refine (st_kind2 G1.out).mono ?_
            rintro e V2 ⟨rfl, hS⟩
            have G2 := Lib.hid hS
            clear hS G1
            rw [HK2.out]
            go_wp2_with (fail)
            refine (st_kind1 G2.out).mono ?_
            rintro e V3 ⟨rfl, hS⟩
            have G3 := Lib.hid hS
            clear hS G2
            rw [HK1.out]
            go_wp2_with (fail)
            refine (st_left1 G3.out HQ.out.v1).mono ?_
            rintro e V4 ⟨rfl, hS⟩
            have G4 := Lib.hid hS
            clear hS G3
            rw [HL1.out]
            go_wp2_with (fail)
            refine (st_left2 G4.out HQ.out.v2).mono ?_
            rintro e V5 ⟨rfl, hS⟩
            have G5 := Lib.hid hS
            clear hS G4
            rw [HL2.out]
            go_wp2_with (fail)
            refine (st_kind1 G5.out).mono ?_
            rintro e V6 ⟨rfl, hS⟩
            have G6 := Lib.hid hS
            clear hS G5
            rw [HK1.out]
            go_wp2_with (fail)
            refine (st_kind2 G6.out).mono ?_
            rintro e V7 ⟨rfl, hS⟩
            have G7 := Lib.hid hS
            clear hS G6
            rw [HK2.out]
            go_wp2_with (fail)
            refine (st_take1 G7.out HQ.out.v1 (n := n) HN.out.1 (by rw [HL1.out]; exact HM.out.1)).mono ?_
            rintro e V8 ⟨s, ls, us, rfl, hS, hT⟩
            have G8 := Lib.hid hS
            have T1 := Lib.hid hT
            clear hS hT G7
            go_wp2_with (fail)
            refine (st_take2 G8.out HQ.out.v2 (n := n) HN.out.2 (by rw [HL2.out]; exact HM.out.2)).mono ?_
            rintro e V9 ⟨t, lt, ut, rfl, hS, hT⟩
            have G9 := Lib.hid hS
            have T2 := Lib.hid hT
            clear hS hT G8
            have hP2 := co_31 HQ.out T1.out T2.out HK1.out HK2.out
            have HP2 := Lib.hid hP2
            have hs6 : s.size ≤ 1000000 := by have := hP2.2; omega
            clear hP2
            go_wp2_with (fail)
            refine (st_puts G9.out HA s hs6).mono ?_
            rintro e V10 ⟨rfl, hS⟩
            have G10 := Lib.hid hS
            clear hS G9
            go_wp2
            go_roundw
            case rel => exact ⟨_, _, _, _, _, G10.out, HP2.out.1⟩
            case measure =>
              have g := st_mu G10.out
              have g0 := st_mu HS.out
              have g1 := T1.out.2.2 H0.out
              have g2 := T2.out.2.2 H0.out
              omega
          · skip
            have hne := co_no0 HQ.out (by omega) (by omega)
            obtain ⟨L1, hL1⟩ : ∃ n, leftC u1 m1 = n := ⟨_, rfl⟩
            obtain ⟨L2, hL2⟩ : ∃ n, leftC u2 m2 = n := ⟨_, rfl⟩
            obtain ⟨n, hn⟩ : ∃ n, min L1 L2 = n := ⟨_, rfl⟩
            have jm : (if L2 < L1 then (L2 : Int) else (L1 : Int)) = (n : Int) := by split <;> omega
            have hn0 : 0 < n ∧ n ≤ L1 ∧ n ≤ L2 := by rw [hL1, hL2] at hne; omega
            rw [hL1] at lo1
            rw [hL2] at lo2
            have HK1 := Lib.hid hk1
            have HK2 := Lib.hid hk2
            have HL1 := Lib.hid hL1
            have HL2 := Lib.hid hL2
            have HN : Hid (m1 ≠ [] ∧ m2 ≠ []) := Lib.hid ⟨hne.1, hne.2.1⟩
            have HM : Hid (n ≤ L1 ∧ n ≤ L2) := Lib.hid hn0.2
            have H0 := Lib.hid hn0.1
            have n6 : n ≤ 200000 := by omega
            clear hk1 hk2 hne hL1 hL2 hn hn0
            go_wp2_with (fail)
            refine (st_kind1 HS.out).mono ?_
            rintro e V1 ⟨rfl, hS⟩
            have G1 := Lib.hid hS
            clear hS 
            rw [HK1.out]
            go_wp2_with (fail)
            refine (st_kind2 G1.out).mono ?_
            rintro e V2 ⟨rfl, hS⟩
            have G2 := Lib.hid hS
            clear hS G1
            rw [HK2.out]
            go_wp2_with (fail)
            refine (st_kind1 G2.out).mono ?_
            rintro e V3 ⟨rfl, hS⟩
            have G3 := Lib.hid hS
            clear hS G2
            rw [HK1.out]
            go_wp2_with (fail)
            refine (st_left1 G3.out HQ.out.v1).mono ?_
            rintro e V4 ⟨rfl, hS⟩
            have G4 := Lib.hid hS
            clear hS G3
            rw [HL1.out]
            go_wp2_with (fail)
            refine (st_left2 G4.out HQ.out.v2).mono ?_
            rintro e V5 ⟨rfl, hS⟩
            have G5 := Lib.hid hS
            clear hS G4
            rw [HL2.out]
            go_wp2_with (fail)
            refine (st_kind1 G5.out).mono ?_
            rintro e V6 ⟨rfl, hS⟩
            have G6 := Lib.hid hS
            clear hS G5
            rw [HK1.out]
            go_wp2_with (fail)
            refine (st_kind2 G6.out).mono ?_
            rintro e V7 ⟨rfl, hS⟩
            have G7 := Lib.hid hS
            clear hS G6
            rw [HK2.out]
            go_wp2_with (fail)
            refine (st_take1 G7.out HQ.out.v1 (n := n) HN.out.1 (by rw [HL1.out]; exact HM.out.1)).mono ?_
            rintro e V8 ⟨s, ls, us, rfl, hS, hT⟩
            have G8 := Lib.hid hS
            have T1 := Lib.hid hT
            clear hS hT G7
            go_wp2_with (fail)
            refine (st_take2 G8.out HQ.out.v2 (n := n) HN.out.2 (by rw [HL2.out]; exact HM.out.2)).mono ?_
            rintro e V9 ⟨t, lt, ut, rfl, hS, hT⟩
            have G9 := Lib.hid hS
            have T2 := Lib.hid hT
            clear hS hT G8
            have hP2 := co_32 HQ.out T1.out T2.out HK1.out HK2.out
            have hbe := bL_eq s t
            by_cases hst : bL s = bL t
            · rw [if_pos hst] at hP2
              rw [decide_eq_true hst] at hbe
              have HP2 := Lib.hid hP2
              clear hP2 hst
              go_wp2
              go_roundw
              case rel => exact ⟨_, _, _, _, _, G9.out, HP2.out⟩
              case measure =>
                have g := st_mu G9.out
                have g0 := st_mu HS.out
                have g1 := T1.out.2.2 H0.out
                have g2 := T2.out.2.2 H0.out
                omega
            · rw [if_neg hst] at hP2
              rw [decide_eq_false hst] at hbe
              have HP2 := Lib.hid hP2
              clear hP2 hst
              go_wp2
              refine bodyPost_ret (results_tmp2 rfl _ _ _) rfl ?_
              exact .inl ⟨HP2.out, rfl, HW.out.trans ((st_low G9.out).mono HW.out.size)⟩
end Go.Proofs.Ytpijooajbgeejaa
