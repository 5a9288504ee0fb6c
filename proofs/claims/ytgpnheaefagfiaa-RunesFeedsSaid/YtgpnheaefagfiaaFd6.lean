/- RunesFeeds: the law's call. -/
import Derived.Test.YtgpnheaefagfiaaFd8
import Derived.Test.YtgpnheaefagfiaaWk
import Derived.Deep.CutRange
namespace Go.Proofs.Ytgpnheaefagfiaa
set_option linter.unusedVariables false
set_option linter.unusedSimpArgs false
open Go Go.RowKit
set_option maxRecDepth 100000

def FeRel (n S F G b0 b1 : Nat) (w : World) (told want i : Value) (wr : World) : Prop :=
  ∃ (j : Nat) (l : List Tw) (X0 : ByteArray) (a0 : Nat) (X1 : ByteArray) (a1 : Nat), i = .int .i64 (j : Nat) ∧ j ≤ n ∧ l.length = j ∧
    ((wr.ownsRow S 29 1 told j (l.map (fun x => x.1)) ∧ wr.ownsRow S 29 1 want j (l.map (fun x => x.2.1)) ∧ Ap told want) ∧ Twos wr S l) ∧ Feeds wr F G b0 b1 X0 a0 X1 a1 ∧ (X0.size ≤ j * 1024 ∧ X1.size ≤ j * 1024) ∧ S ≤ wr.heap.size ∧ Below w.heap.size w wr

def FaRel (n F b0 b1 : Nat) (X0 : ByteArray) (a0 : Nat) (X1 : ByteArray) (a1 : Nat) (w : World) (told want : Value) (l : List Tw) (i : Value) (wr : World) : Prop :=
  ∃ (k : Nat) (A : List Value), i = .int .i64 (k : Nat) ∧ k ≤ n ∧ A.length = k ∧ FaSt n F b0 b1 X0 a0 X1 a1 w told want l k A wr
def FbRel (n F b0 b1 : Nat) (X0 : ByteArray) (a0 : Nat) (X1 : ByteArray) (a1 : Nat) (w : World) (told want : Value) (l : List Tw) (k : Nat) (A : List Value) (v : Value) (m : Nat) (i : Value) (wr : World) : Prop :=
  ∃ p : Nat, i = .int .i64 (p : Nat) ∧ p ≤ m ∧ FtSt n F b0 b1 X0 a0 X1 a1 w told want l k A v m wr
def FcRel (n F b0 b1 : Nat) (X0 : ByteArray) (a0 : Nat) (X1 : ByteArray) (a1 : Nat) (w : World) (told want : Value) (l : List Tw) (k : Nat) (A : List Value) (i : Value) (wr : World) : Prop :=
  ∃ (c : Nat) (v : Value) (m : Nat), i = .int .i64 (c : Nat) ∧ c ≤ 20 ∧ m ≤ 1048576 + c ∧ FtSt n F b0 b1 X0 a0 X1 a1 w told want l k A v m wr
def FzRel (F b0 b1 : Nat) (w : World) (i : Value) (wr : World) : Prop :=
  ∃ (K : Nat) (X0 : ByteArray) (a0 : Nat) (X1 : ByteArray) (a1 : Nat), i = .int .i64 (K : Nat) ∧ K ≤ 2 ∧ Feeds wr F (F + 1) b0 b1 X0 a0 X1 a1 ∧ (X0.size ≤ 262144 ∧ X1.size ≤ 262144) ∧ F + 2 ≤ wr.heap.size ∧ Below w.heap.size w wr
theorem at_old {X Y : World} {b i : Nat} {v : Value} (h : X.cell? ⟨b, i, none⟩ = some v) (hb : Below X.heap.size X Y) : Y.cell? ⟨b, i, none⟩ = some v := (hb.cell (p := ⟨b, i, none⟩) (lt_cell h)).trans h

set_option maxHeartbeats 4000000 in
theorem feeds_any (ao : Option Addr) (len cap : Nat) (ts : List ByteArray) (hl : ts.length = len) (hc : len ≤ cap) (hm : cap ≤ 9223372036854775807) (w : World) (hrow : RowS w ao ts) :
    Calls Try.prog 11 #[.slice ao len cap] w fun e w' => e = .returned (.bool true) ∧ Below w.heap.size w w' := by
  obtain ⟨i0, hi, hz0, hz1, hz2⟩ := info_parts infoR
  obtain ⟨i1, hj1, hu0, hu1, hu2⟩ := info_parts infoP
  obtain ⟨n, hn⟩ : ∃ n, min len 256 = n := ⟨_, rfl⟩
  go_enter Try.func11, Try.ntmps11
  go_upto_if 21 with (first | (go_at_call 15; refine (wakes_any _).mono ?_; rintro e w1 ⟨rfl, hb1⟩))
  go_cut [0] from 22 (fun lv wx => lv = .slice ao n cap ∧ wx = w1)
  case first =>
    by_cases h : 256 < len
    · have hi1 : (256 : Int) < (len : Int) := by omega
      have hi2 : 256 ≤ cap := by omega
      have hn2 : n = 256 := by omega
      have HN := Lib.hid hn2
      clear hn hn2
      go_wp2
      go_meet
      case rel => exact ⟨by rw [HN.out], rfl⟩
    · have hi1 : ¬ (256 : Int) < (len : Int) := by omega
      have hn2 : n = len := by omega
      have HN := Lib.hid hn2
      clear hn hn2
      go_wp2
      go_meet
      case rel => exact ⟨by rw [HN.out], rfl⟩
  case rest =>
    obtain ⟨rfl, rfl⟩ := hcut
    have hnl : n ≤ ts.length := by omega
    have hn256 : n ≤ 256 := by omega
    clear hn
    go_wp2_with (fail)
    refine (newFeed_any _).mono ?_
    rintro e w2 ⟨rfl, hfd2, hb2⟩
    go_wp2_with (fail)
    refine (newFeed_any _).mono ?_
    rintro e w3 ⟨rfl, hfd3, hb3⟩
    go_wp2
    have z0 := hb1.size
    have z2 := hb2.size
    have z3 := hb3.size
    have l2 := hfd2.lt
    have l3 := hfd3.lt
    have f2 := hfd2.below hb3 l2
    have hB0 : Below w.heap.size w w3 := (hb1.trans (hb2.mono z0)).trans (hb3.mono (by omega))
    obtain ⟨b0, e0⟩ : ∃ x, wc.heap.size = x := ⟨_, rfl⟩
    obtain ⟨b1, e1⟩ : ∃ x, w2.heap.size = x := ⟨_, rfl⟩
    obtain ⟨F, eF⟩ : ∃ x, w3.heap.size = x := ⟨_, rfl⟩
    rw [e0] at f2 z0 z2 l2
    rw [e1] at hfd3 z2 z3 l2 l3
    rw [eF] at l3 z3
    simp only [e0, e1, eF]
    obtain ⟨W0, hW0⟩ : ∃ y, ((w3.alloc (.cells #[.pointer (some ⟨b0, 0, none⟩), .pointer (some ⟨b1, 0, none⟩)] 76)).alloc (.cells #[.string { data := #[] }, .int .i64 0, .string { data := #[] }, .int .i64 0] 79)) = y := ⟨_, rfl⟩
    have sW : W0.heap.size = F + 2 := by rw [← hW0]; simp [eF]
    have hFd : Feeds W0 F (F + 1) b0 b1 ByteArray.empty 0 ByteArray.empty 0 := by
      have q1 := (Blk.new w3 #[.pointer (some ⟨b0, 0, none⟩), .pointer (some ⟨b1, 0, none⟩)] 76).alloc (.cells #[.string { data := #[] }, .int .i64 0, .string { data := #[] }, .int .i64 0] 79)
      have q2 := Blk.new (w3.alloc (.cells #[.pointer (some ⟨b0, 0, none⟩), .pointer (some ⟨b1, 0, none⟩)] 76)) #[.string { data := #[] }, .int .i64 0, .string { data := #[] }, .int .i64 0] 79
      rw [eF] at q1
      rw [World.size_alloc, eF] at q2
      have q3 := (f2.kept (World.grownBy_alloc w3 (.cells #[.pointer (some ⟨b0, 0, none⟩), .pointer (some ⟨b1, 0, none⟩)] 76) none) (by simp)).kept (World.grownBy_alloc _ (.cells #[.string { data := #[] }, .int .i64 0, .string { data := #[] }, .int .i64 0] 79) none) (by simp)
      have q4 := (hfd3.kept (World.grownBy_alloc w3 (.cells #[.pointer (some ⟨b0, 0, none⟩), .pointer (some ⟨b1, 0, none⟩)] 76) none) (by simp)).kept (World.grownBy_alloc _ (.cells #[.string { data := #[] }, .int .i64 0, .string { data := #[] }, .int .i64 0] 79) none) (by simp)
      rw [hW0] at q1 q2 q3 q4
      exact ⟨⟨q1, q2⟩, ⟨q3, q4⟩, ⟨feeds_zero, feeds_zero⟩⟩
    have hB1 : Below w.heap.size w W0 := by rw [← hW0]; exact (hB0.alloc hB0.size _).alloc (by have := hB0.size; simp; omega) _
    rw [hW0]
    clear hW0 hfd2 hfd3 f2 hB0 hb1 hb2 hb3
    go_loopw [5, 6, 37] (fun told want i wr => FeRel n (F + 2) F (F + 1) b0 b1 w told want i wr) (fun _ _ i _ => n - (intOf i).toNat)
    case atStart => exact ⟨0, [], _, _, _, _, rfl, Nat.zero_le _, rfl, ⟨⟨World.ownsRow_nil _ _ _ _, World.ownsRow_nil _ _ _ _, fun k hk => by cases hk⟩, ⟨by simp, List.Pairwise.nil⟩⟩, hFd, ⟨Nat.zero_le _, Nat.zero_le _⟩, by omega, hB1⟩
    case round =>
      clear hFd hB1 sW
      obtain ⟨j, l, X0, a0, X1, a1, rfl, hj, hlj, ⟨⟨ht, hwn, hap⟩, htw⟩, hfe, ⟨hx0, hx1⟩, hS, hB⟩ := hrel
      by_cases hlt : j < n
      · obtain ⟨lb, lo, rfl, hcell⟩ := hrow j (by omega)
        have hcl := at_old hcell hB
        obtain ⟨s, hs⟩ : ∃ s, ts.getD j ByteArray.empty = s := ⟨_, rfl⟩
        rw [hs] at hcl
        clear hcell hs
        have hji : (j : Int) < (n : Int) := by omega
        have hm2 : (j : Int).tmod 2 = ((j % 2 : Nat) : Int) := by rw [Int.ofNat_tmod]; rfl
        obtain ⟨to_, tc, rfl, hto⟩ := own_slice ht
        obtain ⟨wo, wc', rfl, hwo⟩ := own_slice hwn
        obtain ⟨K, hK⟩ : ∃ K : Nat, (if 64 < s.size then 0 else j % 2) = K := ⟨_, rfl⟩
        have hK2 : K = 0 ∨ K = 1 := by rw [← hK]; split <;> omega
        go_upto_if 46 with (fail)
        go_cut [9] from 38 to 92 (fun kv wx => kv = .int .i64 (K : Nat) ∧ wx = wr)
        case first =>
          by_cases h : 64 < s.size
          · have hi1 : (64 : Int) < (s.size : Int) := by omega
            rw [if_pos h] at hK
            subst hK
            go_wp2
            go_meet
            case rel => exact ⟨rfl, rfl⟩
          · have hi1 : ¬ (64 : Int) < (s.size : Int) := by omega
            rw [if_neg h] at hK
            have HK := Lib.hid hK
            clear hK
            go_wp2
            go_meet
            case rel => exact ⟨by rw [← HK.out, show (j : Int) % 2 = ((j % 2 : Nat) : Int) by omega], rfl⟩
        case rest =>
          obtain ⟨rfl, rfl⟩ := hcut
          clear hK hm2 hcl
          obtain ⟨s', hs'⟩ : ∃ x, (if 1024 < s.size then s.extract 0 1024 else s) = x := ⟨_, rfl⟩
          have hsz : s'.size ≤ 1024 := by
            rw [← hs']
            split
            · rw [ByteArray.size_extract]; omega
            · omega
          go_upto_if 49 with (fail)
          go_cut [8] from 38 to 92 (fun sv wx => sv = .string s' ∧ wx = wc)
          case first =>
            by_cases h : 1024 < s.size
            · have hi1 : (1024 : Int) < (s.size : Int) := by omega
              rw [if_pos h] at hs'
              have HSS := Lib.hid hs'
              clear hs'
              go_wp2
              go_meet
              case rel => exact ⟨by rw [HSS.out], rfl⟩
            · have hi1 : ¬ (1024 : Int) < (s.size : Int) := by omega
              rw [if_neg h] at hs'
              subst hs'
              go_wp2
              go_meet
              case rel => exact ⟨rfl, rfl⟩
          case rest =>
            obtain ⟨rfl, rfl⟩ := hcut
            clear hs'
            go_upto_if 53 with (fail)
            obtain ⟨y0, hy0⟩ : ∃ x, j * 1024 = x := ⟨_, rfl⟩
            have hy1 : y0 ≤ 262144 := by omega
            have hy2 : (j + 1) * 1024 = y0 + 1024 := by omega
            rw [hy0] at hx0 hx1
            have hG := hfe.1.2
            have hk0 := hfe.2.2.1
            have hk1 := hfe.2.2.2
            have ha0 := hk0.2.1
            have ha1 := hk1.2.1
            have hFl := hfe.1.2.lt
            go_cut [10, 11] from 38 to 92 (fun av bv wx => FeMid j (F + 2) F (F + 1) b0 b1 w (.slice to_ j tc) (.slice wo j wc') l wc.heap.size av bv wx)
            case first =>
              by_cases he : s' = ⟨#[]⟩
              · subst he
                have g2 : (⟨#[]⟩ : ByteArray).toList.isEmpty = true := by kernel_rfl
                rcases hK2 with rfl | rfl
                · go_wp2
                  all_goals (first | (exfalso; rename_i hh; rw [g2] at hh; exact Bool.noConfusion hh) | skip)
                  obtain ⟨p7, p8⟩ := end_same X0 a0 hk0
                  have hql : (posns (X0.extract a0 X0.size)).length ≤ 1048576 := by have := posns_len (X0.extract a0 X0.size); rw [ByteArray.size_extract] at this; omega
                  refine wp_region_g (S := untilG [6] (fun Z => Z.cell? ⟨F, 0, none⟩ = some (.pointer (some ⟨b0, 0, none⟩)))) (by kernel_rfl) ?_
                  obtain ⟨Z0, hZ0⟩ : ∃ Z, wc.drew = Z := ⟨_, rfl⟩
                  have T0 : Below wc.heap.size wc Z0 := hZ0 ▸ (Below.refl wc.heap.size wc).drew
                  rw [hZ0]
                  clear hZ0
                  have U0 : Z0.cell? ⟨F, 0, none⟩ = some (.pointer (some ⟨b0, 0, none⟩)) := at_old (hfe.1.1.cell 0) T0
                  refine wpAnyG_take [0, 1, 2, 3, 7] (i := 0) (v := (.int .i64 0)) rfl (by kernel_rfl) (by kernel_rfl) (by kernel_rfl) (by kernel_rfl) (by kernel_rfl) (by kernel_rfl) (by kernel_rfl) (by kernel_rfl) (fun _ _ _ h => h) (Or.inl ⟨by rfl, ?hy⟩) U0 ?_
                  case hy =>
                    intro X hX
                    go_simp
                  try simp only [Act.put, List.getElem_toArray, List.getElem_cons_zero, List.getElem_cons_succ, List.setIfInBounds_toArray, List.set_cons_zero, List.set_cons_succ]
                  refine wpAnyG_take [1, 2, 3, 7] (i := 1) (v := (.pointer (some ⟨F, 0, none⟩))) rfl (by kernel_rfl) (by kernel_rfl) (by kernel_rfl) (by kernel_rfl) (by kernel_rfl) (by kernel_rfl) (by kernel_rfl) (by kernel_rfl) (fun _ _ _ h => h) (Or.inl ⟨by rfl, ?hy⟩) U0 ?_
                  case hy =>
                    intro X hX
                    go_simp
                  try simp only [Act.put, List.getElem_toArray, List.getElem_cons_zero, List.getElem_cons_succ, List.setIfInBounds_toArray, List.set_cons_zero, List.set_cons_succ]
                  refine wpAnyG_take [2, 3, 7] (i := 2) (v := (.pointer (some ⟨b0, 0, none⟩))) rfl (by kernel_rfl) (by kernel_rfl) (by kernel_rfl) (by kernel_rfl) (by kernel_rfl) (by kernel_rfl) (by kernel_rfl) (by kernel_rfl) (fun _ _ _ h => h) (Or.inl ⟨by rfl, ?hy⟩) U0 ?_
                  case hy =>
                    intro X hX
                    have e0 : X.cell? ⟨F, 0, none⟩ = some (.pointer (some ⟨b0, 0, none⟩)) := hX
                    go_simp
                  try simp only [Act.put, List.getElem_toArray, List.getElem_cons_zero, List.getElem_cons_succ, List.setIfInBounds_toArray, List.set_cons_zero, List.set_cons_succ]
                  refine wpAnyG_take [4, 5, 8] (i := 4) (v := (.int .i64 0)) rfl (by kernel_rfl) (by kernel_rfl) (by kernel_rfl) (by kernel_rfl) (by kernel_rfl) (by kernel_rfl) (by kernel_rfl) (by kernel_rfl) (fun _ _ _ h => h) (Or.inl ⟨by rfl, ?hy⟩) U0 ?_
                  case hy =>
                    intro X hX
                    go_simp
                  try simp only [Act.put, List.getElem_toArray, List.getElem_cons_zero, List.getElem_cons_succ, List.setIfInBounds_toArray, List.set_cons_zero, List.set_cons_succ]
                  refine wpAnyG_take [5, 8] (i := 5) (v := (.pointer (some ⟨F + 1, 0, none⟩))) rfl (by kernel_rfl) (by kernel_rfl) (by kernel_rfl) (by kernel_rfl) (by kernel_rfl) (by kernel_rfl) (by kernel_rfl) (by kernel_rfl) (fun _ _ _ h => h) (Or.inl ⟨by rfl, ?hy⟩) U0 ?_
                  case hy =>
                    intro X hX
                    go_simp
                  try simp only [Act.put, List.getElem_toArray, List.getElem_cons_zero, List.getElem_cons_succ, List.setIfInBounds_toArray, List.set_cons_zero, List.set_cons_succ]
                  have fz := hfe.below T0
                  have dF := fz.2.1.1
                  have dG := fz.1.2
                  have dz : F + 1 < Z0.heap.size := Nat.lt_of_lt_of_le hFl T0.size
                  have db : b0 < Z0.heap.size := dF.lt
                  have kt := own_below ht T0
                  have kw := own_below hwn T0
                  have ktw := htw.below T0
                  have kB := hB.trans (T0.mono hB.size)
                  refine wpAnyG_all (rs := [3]) (by kernel_rfl) (by simp) ?_
                  intro i hi
                  simp only [List.mem_cons, List.not_mem_nil, or_false] at hi
                  subst hi
                  refine wpOp_now rfl rfl ?_
                  go_simp
                  refine (end_any a0 (by omega) Z0 b0 _ dF).mono ?_
                  rintro e Y1 ⟨av, rfl, rA, gA, fA⟩
                  have dG1 := dG.kept gA (by simp; omega)
                  have U1 : Y1.cell? ⟨F, 0, none⟩ = some (.pointer (some ⟨b0, 0, none⟩)) := (fz.1.1.kept gA (by simp; omega)).cell 0
                  refine ⟨fun _ => U1, ?_⟩
                  try simp only [Act.put, List.getElem_toArray, List.getElem_cons_zero, List.getElem_cons_succ, List.setIfInBounds_toArray, List.set_cons_zero, List.set_cons_succ]
                  refine wpAnyG_all (rs := [6]) (by kernel_rfl) (by simp) ?_
                  intro i hi
                  simp only [List.mem_cons, List.not_mem_nil, or_false] at hi
                  subst hi
                  refine wpOp_now rfl rfl ?_
                  go_simp
                  refine (endR_any X0 (by omega) a0 0 ha0 Y1 (F + 1) _ dG1 rfl rfl).mono ?_
                  rintro e Y2 ⟨bv, rfl, rB, gB, fB⟩
                  refine ⟨fun h => (by cases h), ?_⟩
                  try simp only [Act.put, List.getElem_toArray, List.getElem_cons_zero, List.getElem_cons_succ, List.setIfInBounds_toArray, List.set_cons_zero, List.set_cons_succ]
                  refine wpAnyG_all (rs := [7]) (by kernel_rfl) (by simp) ?_
                  intro i hi
                  simp only [List.mem_cons, List.not_mem_nil, or_false] at hi
                  subst hi
                  refine wpOp_now rfl rfl ?_
                  go_simp
                  refine ⟨fun h => (by cases h), ?_⟩
                  try simp only [Act.put, List.getElem_toArray, List.getElem_cons_zero, List.getElem_cons_succ, List.setIfInBounds_toArray, List.set_cons_zero, List.set_cons_succ]
                  refine wpAnyG_all (rs := [8]) (by kernel_rfl) (by simp) ?_
                  intro i hi
                  simp only [List.mem_cons, List.not_mem_nil, or_false] at hi
                  subst hi
                  refine wpOp_now rfl rfl ?_
                  go_simp
                  refine ⟨fun h => (by cases h), ?_⟩
                  try simp only [Act.put, List.getElem_toArray, List.getElem_cons_zero, List.getElem_cons_succ, List.setIfInBounds_toArray, List.set_cons_zero, List.set_cons_succ]
                  refine wpAnyG_done (by kernel_rfl) ?_ _
                  go_wp2
                  go_meet
                  case rel => exact fe_mid0 kt kw ktw fz (by omega) kB l2 l3 z0 T0.size (mid_A (cs := (rfC ByteArray.empty 0 X1 a1)) (qz a0 (X0.extract a0 X0.size) (posns (X0.extract a0 X0.size))) (by rw [qz_len]; exact hql) p7 p8 (qz_len _ _ _) (pcz_qc _ _ _).symm dz (by omega) rA gA fA rB gB fB) feeds_zero (Nat.zero_le _)
                · go_wp2
                  all_goals (first | (exfalso; rename_i hh; rw [g2] at hh; exact Bool.noConfusion hh) | skip)
                  obtain ⟨p7, p8⟩ := end_same X1 a1 hk1
                  have hql : (posns (X1.extract a1 X1.size)).length ≤ 1048576 := by have := posns_len (X1.extract a1 X1.size); rw [ByteArray.size_extract] at this; omega
                  refine wp_region_g (S := untilG [6] (fun Z => Z.cell? ⟨F, 1, none⟩ = some (.pointer (some ⟨b1, 0, none⟩)))) (by kernel_rfl) ?_
                  obtain ⟨Z0, hZ0⟩ : ∃ Z, wc.drew = Z := ⟨_, rfl⟩
                  have T0 : Below wc.heap.size wc Z0 := hZ0 ▸ (Below.refl wc.heap.size wc).drew
                  rw [hZ0]
                  clear hZ0
                  have U0 : Z0.cell? ⟨F, 1, none⟩ = some (.pointer (some ⟨b1, 0, none⟩)) := at_old (hfe.1.1.cell 1) T0
                  refine wpAnyG_take [0, 1, 2, 3, 7] (i := 0) (v := (.int .i64 1)) rfl (by kernel_rfl) (by kernel_rfl) (by kernel_rfl) (by kernel_rfl) (by kernel_rfl) (by kernel_rfl) (by kernel_rfl) (by kernel_rfl) (fun _ _ _ h => h) (Or.inl ⟨by rfl, ?hy⟩) U0 ?_
                  case hy =>
                    intro X hX
                    go_simp
                  try simp only [Act.put, List.getElem_toArray, List.getElem_cons_zero, List.getElem_cons_succ, List.setIfInBounds_toArray, List.set_cons_zero, List.set_cons_succ]
                  refine wpAnyG_take [1, 2, 3, 7] (i := 1) (v := (.pointer (some ⟨F, 1, none⟩))) rfl (by kernel_rfl) (by kernel_rfl) (by kernel_rfl) (by kernel_rfl) (by kernel_rfl) (by kernel_rfl) (by kernel_rfl) (by kernel_rfl) (fun _ _ _ h => h) (Or.inl ⟨by rfl, ?hy⟩) U0 ?_
                  case hy =>
                    intro X hX
                    go_simp
                  try simp only [Act.put, List.getElem_toArray, List.getElem_cons_zero, List.getElem_cons_succ, List.setIfInBounds_toArray, List.set_cons_zero, List.set_cons_succ]
                  refine wpAnyG_take [2, 3, 7] (i := 2) (v := (.pointer (some ⟨b1, 0, none⟩))) rfl (by kernel_rfl) (by kernel_rfl) (by kernel_rfl) (by kernel_rfl) (by kernel_rfl) (by kernel_rfl) (by kernel_rfl) (by kernel_rfl) (fun _ _ _ h => h) (Or.inl ⟨by rfl, ?hy⟩) U0 ?_
                  case hy =>
                    intro X hX
                    have e0 : X.cell? ⟨F, 1, none⟩ = some (.pointer (some ⟨b1, 0, none⟩)) := hX
                    go_simp
                  try simp only [Act.put, List.getElem_toArray, List.getElem_cons_zero, List.getElem_cons_succ, List.setIfInBounds_toArray, List.set_cons_zero, List.set_cons_succ]
                  refine wpAnyG_take [4, 5, 8] (i := 4) (v := (.int .i64 1)) rfl (by kernel_rfl) (by kernel_rfl) (by kernel_rfl) (by kernel_rfl) (by kernel_rfl) (by kernel_rfl) (by kernel_rfl) (by kernel_rfl) (fun _ _ _ h => h) (Or.inl ⟨by rfl, ?hy⟩) U0 ?_
                  case hy =>
                    intro X hX
                    go_simp
                  try simp only [Act.put, List.getElem_toArray, List.getElem_cons_zero, List.getElem_cons_succ, List.setIfInBounds_toArray, List.set_cons_zero, List.set_cons_succ]
                  refine wpAnyG_take [5, 8] (i := 5) (v := (.pointer (some ⟨F + 1, 2, none⟩))) rfl (by kernel_rfl) (by kernel_rfl) (by kernel_rfl) (by kernel_rfl) (by kernel_rfl) (by kernel_rfl) (by kernel_rfl) (by kernel_rfl) (fun _ _ _ h => h) (Or.inl ⟨by rfl, ?hy⟩) U0 ?_
                  case hy =>
                    intro X hX
                    go_simp
                  try simp only [Act.put, List.getElem_toArray, List.getElem_cons_zero, List.getElem_cons_succ, List.setIfInBounds_toArray, List.set_cons_zero, List.set_cons_succ]
                  have fz := hfe.below T0
                  have dF := fz.2.1.2
                  have dG := fz.1.2
                  have dz : F + 1 < Z0.heap.size := Nat.lt_of_lt_of_le hFl T0.size
                  have db : b1 < Z0.heap.size := dF.lt
                  have kt := own_below ht T0
                  have kw := own_below hwn T0
                  have ktw := htw.below T0
                  have kB := hB.trans (T0.mono hB.size)
                  refine wpAnyG_all (rs := [3]) (by kernel_rfl) (by simp) ?_
                  intro i hi
                  simp only [List.mem_cons, List.not_mem_nil, or_false] at hi
                  subst hi
                  refine wpOp_now rfl rfl ?_
                  go_simp
                  refine (end_any a1 (by omega) Z0 b1 _ dF).mono ?_
                  rintro e Y1 ⟨av, rfl, rA, gA, fA⟩
                  have dG1 := dG.kept gA (by simp; omega)
                  have U1 : Y1.cell? ⟨F, 1, none⟩ = some (.pointer (some ⟨b1, 0, none⟩)) := (fz.1.1.kept gA (by simp; omega)).cell 1
                  refine ⟨fun _ => U1, ?_⟩
                  try simp only [Act.put, List.getElem_toArray, List.getElem_cons_zero, List.getElem_cons_succ, List.setIfInBounds_toArray, List.set_cons_zero, List.set_cons_succ]
                  refine wpAnyG_all (rs := [6]) (by kernel_rfl) (by simp) ?_
                  intro i hi
                  simp only [List.mem_cons, List.not_mem_nil, or_false] at hi
                  subst hi
                  refine wpOp_now rfl rfl ?_
                  go_simp
                  refine (endR_any X1 (by omega) a1 2 ha1 Y1 (F + 1) _ dG1 rfl rfl).mono ?_
                  rintro e Y2 ⟨bv, rfl, rB, gB, fB⟩
                  refine ⟨fun h => (by cases h), ?_⟩
                  try simp only [Act.put, List.getElem_toArray, List.getElem_cons_zero, List.getElem_cons_succ, List.setIfInBounds_toArray, List.set_cons_zero, List.set_cons_succ]
                  refine wpAnyG_all (rs := [7]) (by kernel_rfl) (by simp) ?_
                  intro i hi
                  simp only [List.mem_cons, List.not_mem_nil, or_false] at hi
                  subst hi
                  refine wpOp_now rfl rfl ?_
                  go_simp
                  refine ⟨fun h => (by cases h), ?_⟩
                  try simp only [Act.put, List.getElem_toArray, List.getElem_cons_zero, List.getElem_cons_succ, List.setIfInBounds_toArray, List.set_cons_zero, List.set_cons_succ]
                  refine wpAnyG_all (rs := [8]) (by kernel_rfl) (by simp) ?_
                  intro i hi
                  simp only [List.mem_cons, List.not_mem_nil, or_false] at hi
                  subst hi
                  refine wpOp_now rfl rfl ?_
                  go_simp
                  refine ⟨fun h => (by cases h), ?_⟩
                  try simp only [Act.put, List.getElem_toArray, List.getElem_cons_zero, List.getElem_cons_succ, List.setIfInBounds_toArray, List.set_cons_zero, List.set_cons_succ]
                  refine wpAnyG_done (by kernel_rfl) ?_ _
                  go_wp2
                  go_meet
                  case rel => exact fe_mid1 kt kw ktw fz (by omega) kB l2 l3 z0 T0.size (mid_A (cs := (rfC X0 a0 ByteArray.empty 0)) (qz a1 (X1.extract a1 X1.size) (posns (X1.extract a1 X1.size))) (by rw [qz_len]; exact hql) p7 p8 (qz_len _ _ _) (pcz_qc _ _ _).symm dz (by omega) rA gA fA rB gB fB) feeds_zero (Nat.zero_le _)
              · have g3 : ¬ s'.toList = [] := fun h => he (by apply ByteArray.ext; apply Array.ext'; simpa [ByteArray.toList_eq] using h)
                have g2 : s'.toList.isEmpty = false := by rw [List.isEmpty_eq_false_iff]; exact g3
                clear he g3
                rcases hK2 with rfl | rfl
                · go_wp2
                  all_goals (first | (exfalso; rename_i hh; rw [g2] at hh; exact Bool.noConfusion hh) | skip)
                  obtain ⟨S, hS⟩ : ∃ x, X0 ++ s' = x := ⟨_, rfl⟩
                  obtain ⟨bb, hbb⟩ : ∃ x, S.size - opN S = x := ⟨_, rfl⟩
                  have hSz : S.size = X0.size + s'.size := by rw [← hS, ByteArray.size_append]
                  obtain ⟨p1, p2, p3, p4, p5, p6, p7, p8⟩ := put_args X0 s' a0 hk0 S hS bb hbb
                  have hql : (posns (S.extract a0 bb)).length ≤ 1048576 := by have := posns_len (S.extract a0 bb); rw [ByteArray.size_extract] at this; omega
                  have hbq : bb ≤ S.size := by omega
                  refine wp_region_g (S := untilG [8] (fun Z => Z.cell? ⟨F, 0, none⟩ = some (.pointer (some ⟨b0, 0, none⟩)))) (by kernel_rfl) ?_
                  obtain ⟨Z0, hZ0⟩ : ∃ Z, wc.drew = Z := ⟨_, rfl⟩
                  have T0 : Below wc.heap.size wc Z0 := hZ0 ▸ (Below.refl wc.heap.size wc).drew
                  rw [hZ0]
                  clear hZ0
                  have U0 : Z0.cell? ⟨F, 0, none⟩ = some (.pointer (some ⟨b0, 0, none⟩)) := at_old (hfe.1.1.cell 0) T0
                  refine wpAnyG_take [0, 1, 2, 4, 9] (i := 0) (v := (.int .i64 0)) rfl (by kernel_rfl) (by kernel_rfl) (by kernel_rfl) (by kernel_rfl) (by kernel_rfl) (by kernel_rfl) (by kernel_rfl) (by kernel_rfl) (fun _ _ _ h => h) (Or.inl ⟨by rfl, ?hy⟩) U0 ?_
                  case hy =>
                    intro X hX
                    go_simp
                  try simp only [Act.put, List.getElem_toArray, List.getElem_cons_zero, List.getElem_cons_succ, List.setIfInBounds_toArray, List.set_cons_zero, List.set_cons_succ]
                  refine wpAnyG_take [1, 2, 4, 9] (i := 1) (v := (.pointer (some ⟨F, 0, none⟩))) rfl (by kernel_rfl) (by kernel_rfl) (by kernel_rfl) (by kernel_rfl) (by kernel_rfl) (by kernel_rfl) (by kernel_rfl) (by kernel_rfl) (fun _ _ _ h => h) (Or.inl ⟨by rfl, ?hy⟩) U0 ?_
                  case hy =>
                    intro X hX
                    go_simp
                  try simp only [Act.put, List.getElem_toArray, List.getElem_cons_zero, List.getElem_cons_succ, List.setIfInBounds_toArray, List.set_cons_zero, List.set_cons_succ]
                  refine wpAnyG_take [2, 4, 9] (i := 2) (v := (.pointer (some ⟨b0, 0, none⟩))) rfl (by kernel_rfl) (by kernel_rfl) (by kernel_rfl) (by kernel_rfl) (by kernel_rfl) (by kernel_rfl) (by kernel_rfl) (by kernel_rfl) (fun _ _ _ h => h) (Or.inl ⟨by rfl, ?hy⟩) U0 ?_
                  case hy =>
                    intro X hX
                    have e0 : X.cell? ⟨F, 0, none⟩ = some (.pointer (some ⟨b0, 0, none⟩)) := hX
                    go_simp
                  try simp only [Act.put, List.getElem_toArray, List.getElem_cons_zero, List.getElem_cons_succ, List.setIfInBounds_toArray, List.set_cons_zero, List.set_cons_succ]
                  refine wpAnyG_take [3, 4, 9] (i := 3) (v := (.string s')) rfl (by kernel_rfl) (by kernel_rfl) (by kernel_rfl) (by kernel_rfl) (by kernel_rfl) (by kernel_rfl) (by kernel_rfl) (by kernel_rfl) (fun _ _ _ h => h) (Or.inl ⟨by rfl, ?hy⟩) U0 ?_
                  case hy =>
                    intro X hX
                    go_simp
                  try simp only [Act.put, List.getElem_toArray, List.getElem_cons_zero, List.getElem_cons_succ, List.setIfInBounds_toArray, List.set_cons_zero, List.set_cons_succ]
                  refine wpAnyG_take [5, 6, 10] (i := 5) (v := (.int .i64 0)) rfl (by kernel_rfl) (by kernel_rfl) (by kernel_rfl) (by kernel_rfl) (by kernel_rfl) (by kernel_rfl) (by kernel_rfl) (by kernel_rfl) (fun _ _ _ h => h) (Or.inl ⟨by rfl, ?hy⟩) U0 ?_
                  case hy =>
                    intro X hX
                    go_simp
                  try simp only [Act.put, List.getElem_toArray, List.getElem_cons_zero, List.getElem_cons_succ, List.setIfInBounds_toArray, List.set_cons_zero, List.set_cons_succ]
                  refine wpAnyG_take [6, 10] (i := 6) (v := (.pointer (some ⟨F + 1, 0, none⟩))) rfl (by kernel_rfl) (by kernel_rfl) (by kernel_rfl) (by kernel_rfl) (by kernel_rfl) (by kernel_rfl) (by kernel_rfl) (by kernel_rfl) (fun _ _ _ h => h) (Or.inl ⟨by rfl, ?hy⟩) U0 ?_
                  case hy =>
                    intro X hX
                    go_simp
                  try simp only [Act.put, List.getElem_toArray, List.getElem_cons_zero, List.getElem_cons_succ, List.setIfInBounds_toArray, List.set_cons_zero, List.set_cons_succ]
                  refine wpAnyG_take [7, 10] (i := 7) (v := (.string s')) rfl (by kernel_rfl) (by kernel_rfl) (by kernel_rfl) (by kernel_rfl) (by kernel_rfl) (by kernel_rfl) (by kernel_rfl) (by kernel_rfl) (fun _ _ _ h => h) (Or.inl ⟨by rfl, ?hy⟩) U0 ?_
                  case hy =>
                    intro X hX
                    go_simp
                  try simp only [Act.put, List.getElem_toArray, List.getElem_cons_zero, List.getElem_cons_succ, List.setIfInBounds_toArray, List.set_cons_zero, List.set_cons_succ]
                  have fz := hfe.below T0
                  have dF := fz.2.1.1
                  have dG := fz.1.2
                  have dz : F + 1 < Z0.heap.size := Nat.lt_of_lt_of_le hFl T0.size
                  have db : b0 < Z0.heap.size := dF.lt
                  have kt := own_below ht T0
                  have kw := own_below hwn T0
                  have ktw := htw.below T0
                  have kB := hB.trans (T0.mono hB.size)
                  refine wpAnyG_all (rs := [4]) (by kernel_rfl) (by simp) ?_
                  intro i hi
                  simp only [List.mem_cons, List.not_mem_nil, or_false] at hi
                  subst hi
                  refine wpOp_now rfl rfl ?_
                  go_simp
                  refine (put_any a0 (by omega) Z0 b0 _ s' hsz dF _ p1 _ p2).mono ?_
                  rintro e Y1 ⟨av, rfl, rA, gA, fA⟩
                  rw [p3] at rA
                  rw [p4, p5] at fA
                  have dG1 := dG.kept gA (by simp; omega)
                  have U1 : Y1.cell? ⟨F, 0, none⟩ = some (.pointer (some ⟨b0, 0, none⟩)) := (fz.1.1.kept gA (by simp; omega)).cell 0
                  refine ⟨fun _ => U1, ?_⟩
                  try simp only [Act.put, List.getElem_toArray, List.getElem_cons_zero, List.getElem_cons_succ, List.setIfInBounds_toArray, List.set_cons_zero, List.set_cons_succ]
                  refine wpAnyG_all (rs := [8]) (by kernel_rfl) (by simp) ?_
                  intro i hi
                  simp only [List.mem_cons, List.not_mem_nil, or_false] at hi
                  subst hi
                  refine wpOp_now rfl rfl ?_
                  go_simp
                  refine (putR_any X0 s' (by omega) a0 0 ha0 Y1 (F + 1) _ dG1 rfl rfl S hS bb hbb).mono ?_
                  rintro e Y2 ⟨bv, rfl, rB, gB, fB⟩
                  refine ⟨fun h => (by cases h), ?_⟩
                  try simp only [Act.put, List.getElem_toArray, List.getElem_cons_zero, List.getElem_cons_succ, List.setIfInBounds_toArray, List.set_cons_zero, List.set_cons_succ]
                  refine wpAnyG_all (rs := [9]) (by kernel_rfl) (by simp) ?_
                  intro i hi
                  simp only [List.mem_cons, List.not_mem_nil, or_false] at hi
                  subst hi
                  refine wpOp_now rfl rfl ?_
                  go_simp
                  refine ⟨fun h => (by cases h), ?_⟩
                  try simp only [Act.put, List.getElem_toArray, List.getElem_cons_zero, List.getElem_cons_succ, List.setIfInBounds_toArray, List.set_cons_zero, List.set_cons_succ]
                  refine wpAnyG_all (rs := [10]) (by kernel_rfl) (by simp) ?_
                  intro i hi
                  simp only [List.mem_cons, List.not_mem_nil, or_false] at hi
                  subst hi
                  refine wpOp_now rfl rfl ?_
                  go_simp
                  refine ⟨fun h => (by cases h), ?_⟩
                  try simp only [Act.put, List.getElem_toArray, List.getElem_cons_zero, List.getElem_cons_succ, List.setIfInBounds_toArray, List.set_cons_zero, List.set_cons_succ]
                  refine wpAnyG_done (by kernel_rfl) ?_ _
                  go_wp2
                  go_meet
                  case rel => exact fe_mid0 kt kw ktw fz (by omega) kB l2 l3 z0 T0.size (mid_A (cs := (rfC S bb X1 a1)) (qz a0 (S.extract a0 bb) (posns (S.extract a0 bb))) (by rw [qz_len]; exact hql) p7 p8 (qz_len _ _ _) (pcz_qc _ _ _).symm dz (by omega) rA gA fA rB gB fB) p6 (by omega)
                · go_wp2
                  all_goals (first | (exfalso; rename_i hh; rw [g2] at hh; exact Bool.noConfusion hh) | skip)
                  obtain ⟨S, hS⟩ : ∃ x, X1 ++ s' = x := ⟨_, rfl⟩
                  obtain ⟨bb, hbb⟩ : ∃ x, S.size - opN S = x := ⟨_, rfl⟩
                  have hSz : S.size = X1.size + s'.size := by rw [← hS, ByteArray.size_append]
                  obtain ⟨p1, p2, p3, p4, p5, p6, p7, p8⟩ := put_args X1 s' a1 hk1 S hS bb hbb
                  have hql : (posns (S.extract a1 bb)).length ≤ 1048576 := by have := posns_len (S.extract a1 bb); rw [ByteArray.size_extract] at this; omega
                  have hbq : bb ≤ S.size := by omega
                  refine wp_region_g (S := untilG [8] (fun Z => Z.cell? ⟨F, 1, none⟩ = some (.pointer (some ⟨b1, 0, none⟩)))) (by kernel_rfl) ?_
                  obtain ⟨Z0, hZ0⟩ : ∃ Z, wc.drew = Z := ⟨_, rfl⟩
                  have T0 : Below wc.heap.size wc Z0 := hZ0 ▸ (Below.refl wc.heap.size wc).drew
                  rw [hZ0]
                  clear hZ0
                  have U0 : Z0.cell? ⟨F, 1, none⟩ = some (.pointer (some ⟨b1, 0, none⟩)) := at_old (hfe.1.1.cell 1) T0
                  refine wpAnyG_take [0, 1, 2, 4, 9] (i := 0) (v := (.int .i64 1)) rfl (by kernel_rfl) (by kernel_rfl) (by kernel_rfl) (by kernel_rfl) (by kernel_rfl) (by kernel_rfl) (by kernel_rfl) (by kernel_rfl) (fun _ _ _ h => h) (Or.inl ⟨by rfl, ?hy⟩) U0 ?_
                  case hy =>
                    intro X hX
                    go_simp
                  try simp only [Act.put, List.getElem_toArray, List.getElem_cons_zero, List.getElem_cons_succ, List.setIfInBounds_toArray, List.set_cons_zero, List.set_cons_succ]
                  refine wpAnyG_take [1, 2, 4, 9] (i := 1) (v := (.pointer (some ⟨F, 1, none⟩))) rfl (by kernel_rfl) (by kernel_rfl) (by kernel_rfl) (by kernel_rfl) (by kernel_rfl) (by kernel_rfl) (by kernel_rfl) (by kernel_rfl) (fun _ _ _ h => h) (Or.inl ⟨by rfl, ?hy⟩) U0 ?_
                  case hy =>
                    intro X hX
                    go_simp
                  try simp only [Act.put, List.getElem_toArray, List.getElem_cons_zero, List.getElem_cons_succ, List.setIfInBounds_toArray, List.set_cons_zero, List.set_cons_succ]
                  refine wpAnyG_take [2, 4, 9] (i := 2) (v := (.pointer (some ⟨b1, 0, none⟩))) rfl (by kernel_rfl) (by kernel_rfl) (by kernel_rfl) (by kernel_rfl) (by kernel_rfl) (by kernel_rfl) (by kernel_rfl) (by kernel_rfl) (fun _ _ _ h => h) (Or.inl ⟨by rfl, ?hy⟩) U0 ?_
                  case hy =>
                    intro X hX
                    have e0 : X.cell? ⟨F, 1, none⟩ = some (.pointer (some ⟨b1, 0, none⟩)) := hX
                    go_simp
                  try simp only [Act.put, List.getElem_toArray, List.getElem_cons_zero, List.getElem_cons_succ, List.setIfInBounds_toArray, List.set_cons_zero, List.set_cons_succ]
                  refine wpAnyG_take [3, 4, 9] (i := 3) (v := (.string s')) rfl (by kernel_rfl) (by kernel_rfl) (by kernel_rfl) (by kernel_rfl) (by kernel_rfl) (by kernel_rfl) (by kernel_rfl) (by kernel_rfl) (fun _ _ _ h => h) (Or.inl ⟨by rfl, ?hy⟩) U0 ?_
                  case hy =>
                    intro X hX
                    go_simp
                  try simp only [Act.put, List.getElem_toArray, List.getElem_cons_zero, List.getElem_cons_succ, List.setIfInBounds_toArray, List.set_cons_zero, List.set_cons_succ]
                  refine wpAnyG_take [5, 6, 10] (i := 5) (v := (.int .i64 1)) rfl (by kernel_rfl) (by kernel_rfl) (by kernel_rfl) (by kernel_rfl) (by kernel_rfl) (by kernel_rfl) (by kernel_rfl) (by kernel_rfl) (fun _ _ _ h => h) (Or.inl ⟨by rfl, ?hy⟩) U0 ?_
                  case hy =>
                    intro X hX
                    go_simp
                  try simp only [Act.put, List.getElem_toArray, List.getElem_cons_zero, List.getElem_cons_succ, List.setIfInBounds_toArray, List.set_cons_zero, List.set_cons_succ]
                  refine wpAnyG_take [6, 10] (i := 6) (v := (.pointer (some ⟨F + 1, 2, none⟩))) rfl (by kernel_rfl) (by kernel_rfl) (by kernel_rfl) (by kernel_rfl) (by kernel_rfl) (by kernel_rfl) (by kernel_rfl) (by kernel_rfl) (fun _ _ _ h => h) (Or.inl ⟨by rfl, ?hy⟩) U0 ?_
                  case hy =>
                    intro X hX
                    go_simp
                  try simp only [Act.put, List.getElem_toArray, List.getElem_cons_zero, List.getElem_cons_succ, List.setIfInBounds_toArray, List.set_cons_zero, List.set_cons_succ]
                  refine wpAnyG_take [7, 10] (i := 7) (v := (.string s')) rfl (by kernel_rfl) (by kernel_rfl) (by kernel_rfl) (by kernel_rfl) (by kernel_rfl) (by kernel_rfl) (by kernel_rfl) (by kernel_rfl) (fun _ _ _ h => h) (Or.inl ⟨by rfl, ?hy⟩) U0 ?_
                  case hy =>
                    intro X hX
                    go_simp
                  try simp only [Act.put, List.getElem_toArray, List.getElem_cons_zero, List.getElem_cons_succ, List.setIfInBounds_toArray, List.set_cons_zero, List.set_cons_succ]
                  have fz := hfe.below T0
                  have dF := fz.2.1.2
                  have dG := fz.1.2
                  have dz : F + 1 < Z0.heap.size := Nat.lt_of_lt_of_le hFl T0.size
                  have db : b1 < Z0.heap.size := dF.lt
                  have kt := own_below ht T0
                  have kw := own_below hwn T0
                  have ktw := htw.below T0
                  have kB := hB.trans (T0.mono hB.size)
                  refine wpAnyG_all (rs := [4]) (by kernel_rfl) (by simp) ?_
                  intro i hi
                  simp only [List.mem_cons, List.not_mem_nil, or_false] at hi
                  subst hi
                  refine wpOp_now rfl rfl ?_
                  go_simp
                  refine (put_any a1 (by omega) Z0 b1 _ s' hsz dF _ p1 _ p2).mono ?_
                  rintro e Y1 ⟨av, rfl, rA, gA, fA⟩
                  rw [p3] at rA
                  rw [p4, p5] at fA
                  have dG1 := dG.kept gA (by simp; omega)
                  have U1 : Y1.cell? ⟨F, 1, none⟩ = some (.pointer (some ⟨b1, 0, none⟩)) := (fz.1.1.kept gA (by simp; omega)).cell 1
                  refine ⟨fun _ => U1, ?_⟩
                  try simp only [Act.put, List.getElem_toArray, List.getElem_cons_zero, List.getElem_cons_succ, List.setIfInBounds_toArray, List.set_cons_zero, List.set_cons_succ]
                  refine wpAnyG_all (rs := [8]) (by kernel_rfl) (by simp) ?_
                  intro i hi
                  simp only [List.mem_cons, List.not_mem_nil, or_false] at hi
                  subst hi
                  refine wpOp_now rfl rfl ?_
                  go_simp
                  refine (putR_any X1 s' (by omega) a1 2 ha1 Y1 (F + 1) _ dG1 rfl rfl S hS bb hbb).mono ?_
                  rintro e Y2 ⟨bv, rfl, rB, gB, fB⟩
                  refine ⟨fun h => (by cases h), ?_⟩
                  try simp only [Act.put, List.getElem_toArray, List.getElem_cons_zero, List.getElem_cons_succ, List.setIfInBounds_toArray, List.set_cons_zero, List.set_cons_succ]
                  refine wpAnyG_all (rs := [9]) (by kernel_rfl) (by simp) ?_
                  intro i hi
                  simp only [List.mem_cons, List.not_mem_nil, or_false] at hi
                  subst hi
                  refine wpOp_now rfl rfl ?_
                  go_simp
                  refine ⟨fun h => (by cases h), ?_⟩
                  try simp only [Act.put, List.getElem_toArray, List.getElem_cons_zero, List.getElem_cons_succ, List.setIfInBounds_toArray, List.set_cons_zero, List.set_cons_succ]
                  refine wpAnyG_all (rs := [10]) (by kernel_rfl) (by simp) ?_
                  intro i hi
                  simp only [List.mem_cons, List.not_mem_nil, or_false] at hi
                  subst hi
                  refine wpOp_now rfl rfl ?_
                  go_simp
                  refine ⟨fun h => (by cases h), ?_⟩
                  try simp only [Act.put, List.getElem_toArray, List.getElem_cons_zero, List.getElem_cons_succ, List.setIfInBounds_toArray, List.set_cons_zero, List.set_cons_succ]
                  refine wpAnyG_done (by kernel_rfl) ?_ _
                  go_wp2
                  go_meet
                  case rel => exact fe_mid1 kt kw ktw fz (by omega) kB l2 l3 z0 T0.size (mid_A (cs := (rfC X0 a0 S bb)) (qz a1 (S.extract a1 bb) (posns (S.extract a1 bb))) (by rw [qz_len]; exact hql) p7 p8 (qz_len _ _ _) (pcz_qc _ _ _).symm dz (by omega) rA gA fA rB gB fB) p6 (by omega)
            case rest =>
              obtain ⟨q, Y0, c0, Y1, c1, ⟨hq, rA, rB⟩, ⟨kt, kw, ktw⟩, kfe, ⟨ky0, ky1⟩, kS, kB⟩ := hcut
              obtain ⟨oa, ca, rfl, _⟩ := own_slice rA
              obtain ⟨ob, cb, rfl, _⟩ := own_slice rB
              have hSw : w.heap.size ≤ F + 2 := by omega
              have kS2 : F + 2 ≤ wc.heap.size := by omega
              go_wp2_with (first | (at_builtin; refine wpList_append_lies _ rfl _ _ 80 rfl (F + 2) 29 i0 (.slice none 0 0) 1 24 Try.underlying80 hi hz0 hz1 hz2 rfl (by decide) _ _ _ rfl (kt.alloc (.cells #[.slice oa q.length ca] 29)) ⟨wc.heap.size, 0, none⟩ 1 1 [.slice oa q.length ca] rfl rfl (World.news_of_block (cs := #[.slice oa q.length ca]) (t := 29) (fr := (0, 0)) (World.alloc_heap_new wc _)) (fun x hx => by simp at hx; rw [hx]; rfl) (by omega) (by unfold maxLen; omega) (by omega) (by simp; omega) _ rfl ?_; intro g1 c1' v1 hown1 hg1 hat1 hlt1; have kq := keep24 kt hg1; have kw1 := (kw.alloc (.cells #[.slice oa q.length ca] 29)).kept hg1 hap.ne; have kS3 := kq.2.2.2.2) | (at_builtin; refine wpList_append_lies _ rfl _ _ 80 rfl (F + 2) 29 i0 (.slice none 0 0) 1 24 Try.underlying80 hi hz0 hz1 hz2 rfl (by decide) _ _ _ rfl (kw1.alloc (.cells #[.slice ob q.length cb] 29)) ⟨v1.heap.size, 0, none⟩ 1 1 [.slice ob q.length cb] rfl rfl (World.news_of_block (cs := #[.slice ob q.length cb]) (t := 29) (fr := (0, 0)) (World.alloc_heap_new v1 _)) (fun x hx => by simp at hx; rw [hx]; rfl) (by omega) (by unfold maxLen; omega) (by omega) (by simp; omega) _ rfl ?_; intro g2 c2' v2 hown2 hg2 hat2 hlt2))
              have kq2 := keep24 kw1 hg2
              have ap1 := ap_new (n := j + 1) (c := c1') hat1 hap (fun k hk => by have := (kw.lt k hk).2; simp; omega)
              have tR := (hown1.alloc (.cells #[.slice ob q.length cb] 29)).kept hg2 ap1.symm.ne
              have ap2 := (ap_new (n := j + 1) (c := c2') hat2 ap1.symm (ob_lt (by simp; omega))).symm
              have nA := kq2.1 _ _ _ _ (kq.1 _ _ _ _ rA)
              have nB := kq2.1 _ _ _ _ (kq.1 _ _ _ _ rB)
              have ntw := (kq2.2.1 _ _ (kq.2.1 _ _ ktw)).snoc hS (fun x hx k hk => ((htw.1 x hx).1.lt k hk).2) nA nB hq
              have nfe := kq2.2.2.1 _ _ _ _ _ _ _ _ (kq.2.2.1 _ _ _ _ _ _ _ _ kfe)
              have nBl := kq2.2.2.2.1 w (kq.2.2.2.1 w kB hSw) hSw
              have nS : F + 2 ≤ v2.heap.size := Nat.le_trans kS2 (Nat.le_trans kq.2.2.2.2 kq2.2.2.2.2)
              have nl1 : ((l ++ [(.slice oa q.length ca, .slice ob q.length cb, q)] : List Tw).map (fun x => x.1)) = l.map (fun x => x.1) ++ [.slice oa q.length ca] := by simp
              have nl2 : ((l ++ [(.slice oa q.length ca, .slice ob q.length cb, q)] : List Tw).map (fun x => x.2.1)) = l.map (fun x => x.2.1) ++ [.slice ob q.length cb] := by simp
              rw [← nl1] at tR
              rw [← nl2] at hown2
              obtain ⟨l', hl'⟩ : ∃ x, (l ++ [(.slice oa q.length ca, .slice ob q.length cb, q)] : List Tw) = x := ⟨_, rfl⟩
              have hll : l'.length = j + 1 := by rw [← hl']; simp [hlj]
              rw [hl'] at tR hown2 ntw
              have hjn : j + 1 ≤ 256 := by omega
              clear nl1 nl2 hl' kq kq2 kw1 hown1 hg1 hg2 hat1 hat2 hlt1 hlt2 kt kw ktw kfe kB rA rB ht hwn htw hfe hap ap1
              rcases hK2 with rfl | rfl
              · have eF1 : v2.cell? ⟨F, 0, none⟩ = some (.pointer (some ⟨b0, 0, none⟩)) := nfe.1.1.cell 0
                have hy2 : c0 ≤ Y0.size := nfe.2.2.1.2.1
                refine wp_region_g (S := untilG [] (fun Z => Below v2.heap.size v2 Z)) (by kernel_rfl) ?_
                obtain ⟨Z0, hZ0⟩ : ∃ Z, v2.drew = Z := ⟨_, rfl⟩
                have T0 : Below v2.heap.size v2 Z0 := hZ0 ▸ (Below.refl v2.heap.size v2).drew
                rw [hZ0]
                clear hZ0
                refine wpAnyG_take [0, 2, 3, 4, 5, 6, 7, 8, 9, 10, 11, 12, 13] (i := 0) (v := (.slice oa q.length ca)) rfl (by kernel_rfl) (by kernel_rfl) (by kernel_rfl) (by kernel_rfl) (by kernel_rfl) (by kernel_rfl) (by kernel_rfl) (by kernel_rfl) (fun _ _ _ h => h) (Or.inl ⟨by rfl, ?hy⟩) T0 ?_
                case hy =>
                  intro X hX
                  go_simp
                try simp only [Act.put, List.getElem_toArray, List.getElem_cons_zero, List.getElem_cons_succ, List.setIfInBounds_toArray, List.set_cons_zero, List.set_cons_succ]
                refine wpAnyG_take [1, 2, 3, 4, 5, 6, 7, 8, 9, 10, 11, 12, 13] (i := 1) (v := (.slice ob q.length cb)) rfl (by kernel_rfl) (by kernel_rfl) (by kernel_rfl) (by kernel_rfl) (by kernel_rfl) (by kernel_rfl) (by kernel_rfl) (by kernel_rfl) (fun _ _ _ h => h) (Or.inl ⟨by rfl, ?hy⟩) T0 ?_
                case hy =>
                  intro X hX
                  go_simp
                try simp only [Act.put, List.getElem_toArray, List.getElem_cons_zero, List.getElem_cons_succ, List.setIfInBounds_toArray, List.set_cons_zero, List.set_cons_succ]
                refine wpAnyG_all (rs := [2]) (by kernel_rfl) (by simp) ?_
                intro i hi
                simp only [List.mem_cons, List.not_mem_nil, or_false] at hi
                subst hi
                refine wpOp_now rfl rfl ?_
                go_simp
                refine (same_pieces q _ _ _ _ (by omega) _ (own_below nA T0) (own_below nB T0)).mono ?_
                rintro e Z1 ⟨rfl, hb1⟩
                replace T0 := T0.trans (hb1.mono T0.size)
                clear hb1
                refine ⟨fun _ => T0, ?_⟩
                try simp only [Act.put, List.getElem_toArray, List.getElem_cons_zero, List.getElem_cons_succ, List.setIfInBounds_toArray, List.set_cons_zero, List.set_cons_succ]
                refine wpAnyG_take [3, 4, 5, 6, 7, 8, 9, 10, 11, 12, 13] (i := 3) (v := (.bool false)) rfl (by kernel_rfl) (by kernel_rfl) (by kernel_rfl) (by kernel_rfl) (by kernel_rfl) (by kernel_rfl) (by kernel_rfl) (by kernel_rfl) (fun _ _ _ h => h) (Or.inl ⟨by rfl, ?hy⟩) T0 ?_
                case hy =>
                  intro X hX
                  go_simp
                try simp only [Act.put, List.getElem_toArray, List.getElem_cons_zero, List.getElem_cons_succ, List.setIfInBounds_toArray, List.set_cons_zero, List.set_cons_succ]
                refine wpAnyG_take [4, 5, 6, 7, 8, 9, 10, 11, 12, 13] (i := 4) (v := (.bool false)) rfl (by kernel_rfl) (by kernel_rfl) (by kernel_rfl) (by kernel_rfl) (by kernel_rfl) (by kernel_rfl) (by kernel_rfl) (by kernel_rfl) (fun _ _ _ h => h) (Or.inl ⟨by rfl, ?hy⟩) T0 ?_
                case hy =>
                  intro X hX
                  go_simp
                try simp only [Act.put, List.getElem_toArray, List.getElem_cons_zero, List.getElem_cons_succ, List.setIfInBounds_toArray, List.set_cons_zero, List.set_cons_succ]
                refine wpAnyG_take [5, 6, 7, 8, 12, 13] (i := 5) (v := (.int .i64 0)) rfl (by kernel_rfl) (by kernel_rfl) (by kernel_rfl) (by kernel_rfl) (by kernel_rfl) (by kernel_rfl) (by kernel_rfl) (by kernel_rfl) (fun _ _ _ h => h) (Or.inl ⟨by rfl, ?hy⟩) T0 ?_
                case hy =>
                  intro X hX
                  go_simp
                try simp only [Act.put, List.getElem_toArray, List.getElem_cons_zero, List.getElem_cons_succ, List.setIfInBounds_toArray, List.set_cons_zero, List.set_cons_succ]
                refine wpAnyG_take [6, 7, 8, 12, 13] (i := 6) (v := (.pointer (some ⟨F, 0, none⟩))) rfl (by kernel_rfl) (by kernel_rfl) (by kernel_rfl) (by kernel_rfl) (by kernel_rfl) (by kernel_rfl) (by kernel_rfl) (by kernel_rfl) (fun _ _ _ h => h) (Or.inl ⟨by rfl, ?hy⟩) T0 ?_
                case hy =>
                  intro X hX
                  go_simp
                try simp only [Act.put, List.getElem_toArray, List.getElem_cons_zero, List.getElem_cons_succ, List.setIfInBounds_toArray, List.set_cons_zero, List.set_cons_succ]
                refine wpAnyG_take [7, 8, 12, 13] (i := 7) (v := (.pointer (some ⟨b0, 0, none⟩))) rfl (by kernel_rfl) (by kernel_rfl) (by kernel_rfl) (by kernel_rfl) (by kernel_rfl) (by kernel_rfl) (by kernel_rfl) (by kernel_rfl) (fun _ _ _ h => h) (Or.inl ⟨by rfl, ?hy⟩) T0 ?_
                case hy =>
                  intro X hX
                  have e0 := at_below eF1 hX
                  go_simp
                try simp only [Act.put, List.getElem_toArray, List.getElem_cons_zero, List.getElem_cons_succ, List.setIfInBounds_toArray, List.set_cons_zero, List.set_cons_succ]
                refine wpAnyG_take [9, 10, 11, 12, 13] (i := 9) (v := (.int .i64 0)) rfl (by kernel_rfl) (by kernel_rfl) (by kernel_rfl) (by kernel_rfl) (by kernel_rfl) (by kernel_rfl) (by kernel_rfl) (by kernel_rfl) (fun _ _ _ h => h) (Or.inl ⟨by rfl, ?hy⟩) T0 ?_
                case hy =>
                  intro X hX
                  go_simp
                try simp only [Act.put, List.getElem_toArray, List.getElem_cons_zero, List.getElem_cons_succ, List.setIfInBounds_toArray, List.set_cons_zero, List.set_cons_succ]
                refine wpAnyG_take [10, 11, 12, 13] (i := 10) (v := (.pointer (some ⟨F + 1, 0, none⟩))) rfl (by kernel_rfl) (by kernel_rfl) (by kernel_rfl) (by kernel_rfl) (by kernel_rfl) (by kernel_rfl) (by kernel_rfl) (by kernel_rfl) (fun _ _ _ h => h) (Or.inl ⟨by rfl, ?hy⟩) T0 ?_
                case hy =>
                  intro X hX
                  go_simp
                try simp only [Act.put, List.getElem_toArray, List.getElem_cons_zero, List.getElem_cons_succ, List.setIfInBounds_toArray, List.set_cons_zero, List.set_cons_succ]
                refine wpAnyG_all (rs := [8]) (by kernel_rfl) (by simp) ?_
                intro i hi
                simp only [List.mem_cons, List.not_mem_nil, or_false] at hi
                subst hi
                refine wpOp_open rfl (by rfl) ?_
                go_simp
                have dz := nfe.below T0
                refine (held_any _ b0 _ _ dz.2.1.1).mono ?_
                rintro e Z2 ⟨rfl, hb⟩
                replace T0 := T0.trans (hb.mono T0.size)
                clear hb dz
                refine ⟨fun _ => T0, ?_⟩
                try simp only [Act.put, List.getElem_toArray, List.getElem_cons_zero, List.getElem_cons_succ, List.setIfInBounds_toArray, List.set_cons_zero, List.set_cons_succ]
                refine wpAnyG_all (rs := [11]) (by kernel_rfl) (by simp) ?_
                intro i hi
                simp only [List.mem_cons, List.not_mem_nil, or_false] at hi
                subst hi
                refine wpOp_open rfl (by rfl) ?_
                go_simp
                have dz := nfe.below T0
                refine (heldR_any Y0 (by omega) c0 0 hy2 _ (F + 1) _ dz.1.2 rfl rfl).mono ?_
                rintro e Z3 ⟨rfl, hb⟩
                replace T0 := T0.trans (hb.mono T0.size)
                clear hb dz
                refine ⟨fun _ => T0, ?_⟩
                try simp only [Act.put, List.getElem_toArray, List.getElem_cons_zero, List.getElem_cons_succ, List.setIfInBounds_toArray, List.set_cons_zero, List.set_cons_succ]
                refine wpAnyG_all (rs := [12]) (by kernel_rfl) (by simp) ?_
                intro i hi
                simp only [List.mem_cons, List.not_mem_nil, or_false] at hi
                subst hi
                refine wpOp_open rfl (by rfl) ?_
                go_simp
                refine ⟨fun _ => T0, ?_⟩
                try simp only [Act.put, List.getElem_toArray, List.getElem_cons_zero, List.getElem_cons_succ, List.setIfInBounds_toArray, List.set_cons_zero, List.set_cons_succ]
                refine wpAnyG_all (rs := [13]) (by kernel_rfl) (by simp) ?_
                intro i hi
                simp only [List.mem_cons, List.not_mem_nil, or_false] at hi
                subst hi
                refine wpOp_now rfl rfl ?_
                go_simp
                refine ⟨fun _ => T0, ?_⟩
                try simp only [Act.put, List.getElem_toArray, List.getElem_cons_zero, List.getElem_cons_succ, List.setIfInBounds_toArray, List.set_cons_zero, List.set_cons_succ]
                refine wpAnyG_done (by kernel_rfl) ?_ _
                have mt := own_below tR T0
                have mw := own_below hown2 T0
                have mtw := ntw.below T0
                have mfe := nfe.below T0
                have mB := nBl.trans (T0.mono nBl.size)
                have mS := Nat.le_trans nS T0.size
                clear tR hown2 ntw nfe nBl T0
                go_wp2
                go_roundw
                case rel => exact ⟨j + 1, l', Y0, c0, Y1, c1, by go_num, by omega, hll, ⟨⟨mt, mw, ap2⟩, mtw⟩, mfe, ⟨ky0, ky1⟩, mS, mB⟩
                case measure => simp [intOf]; omega
              · have eF1 : v2.cell? ⟨F, 1, none⟩ = some (.pointer (some ⟨b1, 0, none⟩)) := nfe.1.1.cell 1
                have hy2 : c1 ≤ Y1.size := nfe.2.2.2.2.1
                refine wp_region_g (S := untilG [] (fun Z => Below v2.heap.size v2 Z)) (by kernel_rfl) ?_
                obtain ⟨Z0, hZ0⟩ : ∃ Z, v2.drew = Z := ⟨_, rfl⟩
                have T0 : Below v2.heap.size v2 Z0 := hZ0 ▸ (Below.refl v2.heap.size v2).drew
                rw [hZ0]
                clear hZ0
                refine wpAnyG_take [0, 2, 3, 4, 5, 6, 7, 8, 9, 10, 11, 12, 13] (i := 0) (v := (.slice oa q.length ca)) rfl (by kernel_rfl) (by kernel_rfl) (by kernel_rfl) (by kernel_rfl) (by kernel_rfl) (by kernel_rfl) (by kernel_rfl) (by kernel_rfl) (fun _ _ _ h => h) (Or.inl ⟨by rfl, ?hy⟩) T0 ?_
                case hy =>
                  intro X hX
                  go_simp
                try simp only [Act.put, List.getElem_toArray, List.getElem_cons_zero, List.getElem_cons_succ, List.setIfInBounds_toArray, List.set_cons_zero, List.set_cons_succ]
                refine wpAnyG_take [1, 2, 3, 4, 5, 6, 7, 8, 9, 10, 11, 12, 13] (i := 1) (v := (.slice ob q.length cb)) rfl (by kernel_rfl) (by kernel_rfl) (by kernel_rfl) (by kernel_rfl) (by kernel_rfl) (by kernel_rfl) (by kernel_rfl) (by kernel_rfl) (fun _ _ _ h => h) (Or.inl ⟨by rfl, ?hy⟩) T0 ?_
                case hy =>
                  intro X hX
                  go_simp
                try simp only [Act.put, List.getElem_toArray, List.getElem_cons_zero, List.getElem_cons_succ, List.setIfInBounds_toArray, List.set_cons_zero, List.set_cons_succ]
                refine wpAnyG_all (rs := [2]) (by kernel_rfl) (by simp) ?_
                intro i hi
                simp only [List.mem_cons, List.not_mem_nil, or_false] at hi
                subst hi
                refine wpOp_now rfl rfl ?_
                go_simp
                refine (same_pieces q _ _ _ _ (by omega) _ (own_below nA T0) (own_below nB T0)).mono ?_
                rintro e Z1 ⟨rfl, hb1⟩
                replace T0 := T0.trans (hb1.mono T0.size)
                clear hb1
                refine ⟨fun _ => T0, ?_⟩
                try simp only [Act.put, List.getElem_toArray, List.getElem_cons_zero, List.getElem_cons_succ, List.setIfInBounds_toArray, List.set_cons_zero, List.set_cons_succ]
                refine wpAnyG_take [3, 4, 5, 6, 7, 8, 9, 10, 11, 12, 13] (i := 3) (v := (.bool false)) rfl (by kernel_rfl) (by kernel_rfl) (by kernel_rfl) (by kernel_rfl) (by kernel_rfl) (by kernel_rfl) (by kernel_rfl) (by kernel_rfl) (fun _ _ _ h => h) (Or.inl ⟨by rfl, ?hy⟩) T0 ?_
                case hy =>
                  intro X hX
                  go_simp
                try simp only [Act.put, List.getElem_toArray, List.getElem_cons_zero, List.getElem_cons_succ, List.setIfInBounds_toArray, List.set_cons_zero, List.set_cons_succ]
                refine wpAnyG_take [4, 5, 6, 7, 8, 9, 10, 11, 12, 13] (i := 4) (v := (.bool false)) rfl (by kernel_rfl) (by kernel_rfl) (by kernel_rfl) (by kernel_rfl) (by kernel_rfl) (by kernel_rfl) (by kernel_rfl) (by kernel_rfl) (fun _ _ _ h => h) (Or.inl ⟨by rfl, ?hy⟩) T0 ?_
                case hy =>
                  intro X hX
                  go_simp
                try simp only [Act.put, List.getElem_toArray, List.getElem_cons_zero, List.getElem_cons_succ, List.setIfInBounds_toArray, List.set_cons_zero, List.set_cons_succ]
                refine wpAnyG_take [5, 6, 7, 8, 12, 13] (i := 5) (v := (.int .i64 1)) rfl (by kernel_rfl) (by kernel_rfl) (by kernel_rfl) (by kernel_rfl) (by kernel_rfl) (by kernel_rfl) (by kernel_rfl) (by kernel_rfl) (fun _ _ _ h => h) (Or.inl ⟨by rfl, ?hy⟩) T0 ?_
                case hy =>
                  intro X hX
                  go_simp
                try simp only [Act.put, List.getElem_toArray, List.getElem_cons_zero, List.getElem_cons_succ, List.setIfInBounds_toArray, List.set_cons_zero, List.set_cons_succ]
                refine wpAnyG_take [6, 7, 8, 12, 13] (i := 6) (v := (.pointer (some ⟨F, 1, none⟩))) rfl (by kernel_rfl) (by kernel_rfl) (by kernel_rfl) (by kernel_rfl) (by kernel_rfl) (by kernel_rfl) (by kernel_rfl) (by kernel_rfl) (fun _ _ _ h => h) (Or.inl ⟨by rfl, ?hy⟩) T0 ?_
                case hy =>
                  intro X hX
                  go_simp
                try simp only [Act.put, List.getElem_toArray, List.getElem_cons_zero, List.getElem_cons_succ, List.setIfInBounds_toArray, List.set_cons_zero, List.set_cons_succ]
                refine wpAnyG_take [7, 8, 12, 13] (i := 7) (v := (.pointer (some ⟨b1, 0, none⟩))) rfl (by kernel_rfl) (by kernel_rfl) (by kernel_rfl) (by kernel_rfl) (by kernel_rfl) (by kernel_rfl) (by kernel_rfl) (by kernel_rfl) (fun _ _ _ h => h) (Or.inl ⟨by rfl, ?hy⟩) T0 ?_
                case hy =>
                  intro X hX
                  have e0 := at_below eF1 hX
                  go_simp
                try simp only [Act.put, List.getElem_toArray, List.getElem_cons_zero, List.getElem_cons_succ, List.setIfInBounds_toArray, List.set_cons_zero, List.set_cons_succ]
                refine wpAnyG_take [9, 10, 11, 12, 13] (i := 9) (v := (.int .i64 1)) rfl (by kernel_rfl) (by kernel_rfl) (by kernel_rfl) (by kernel_rfl) (by kernel_rfl) (by kernel_rfl) (by kernel_rfl) (by kernel_rfl) (fun _ _ _ h => h) (Or.inl ⟨by rfl, ?hy⟩) T0 ?_
                case hy =>
                  intro X hX
                  go_simp
                try simp only [Act.put, List.getElem_toArray, List.getElem_cons_zero, List.getElem_cons_succ, List.setIfInBounds_toArray, List.set_cons_zero, List.set_cons_succ]
                refine wpAnyG_take [10, 11, 12, 13] (i := 10) (v := (.pointer (some ⟨F + 1, 2, none⟩))) rfl (by kernel_rfl) (by kernel_rfl) (by kernel_rfl) (by kernel_rfl) (by kernel_rfl) (by kernel_rfl) (by kernel_rfl) (by kernel_rfl) (fun _ _ _ h => h) (Or.inl ⟨by rfl, ?hy⟩) T0 ?_
                case hy =>
                  intro X hX
                  go_simp
                try simp only [Act.put, List.getElem_toArray, List.getElem_cons_zero, List.getElem_cons_succ, List.setIfInBounds_toArray, List.set_cons_zero, List.set_cons_succ]
                refine wpAnyG_all (rs := [8]) (by kernel_rfl) (by simp) ?_
                intro i hi
                simp only [List.mem_cons, List.not_mem_nil, or_false] at hi
                subst hi
                refine wpOp_open rfl (by rfl) ?_
                go_simp
                have dz := nfe.below T0
                refine (held_any _ b1 _ _ dz.2.1.2).mono ?_
                rintro e Z2 ⟨rfl, hb⟩
                replace T0 := T0.trans (hb.mono T0.size)
                clear hb dz
                refine ⟨fun _ => T0, ?_⟩
                try simp only [Act.put, List.getElem_toArray, List.getElem_cons_zero, List.getElem_cons_succ, List.setIfInBounds_toArray, List.set_cons_zero, List.set_cons_succ]
                refine wpAnyG_all (rs := [11]) (by kernel_rfl) (by simp) ?_
                intro i hi
                simp only [List.mem_cons, List.not_mem_nil, or_false] at hi
                subst hi
                refine wpOp_open rfl (by rfl) ?_
                go_simp
                have dz := nfe.below T0
                refine (heldR_any Y1 (by omega) c1 2 hy2 _ (F + 1) _ dz.1.2 rfl rfl).mono ?_
                rintro e Z3 ⟨rfl, hb⟩
                replace T0 := T0.trans (hb.mono T0.size)
                clear hb dz
                refine ⟨fun _ => T0, ?_⟩
                try simp only [Act.put, List.getElem_toArray, List.getElem_cons_zero, List.getElem_cons_succ, List.setIfInBounds_toArray, List.set_cons_zero, List.set_cons_succ]
                refine wpAnyG_all (rs := [12]) (by kernel_rfl) (by simp) ?_
                intro i hi
                simp only [List.mem_cons, List.not_mem_nil, or_false] at hi
                subst hi
                refine wpOp_open rfl (by rfl) ?_
                go_simp
                refine ⟨fun _ => T0, ?_⟩
                try simp only [Act.put, List.getElem_toArray, List.getElem_cons_zero, List.getElem_cons_succ, List.setIfInBounds_toArray, List.set_cons_zero, List.set_cons_succ]
                refine wpAnyG_all (rs := [13]) (by kernel_rfl) (by simp) ?_
                intro i hi
                simp only [List.mem_cons, List.not_mem_nil, or_false] at hi
                subst hi
                refine wpOp_now rfl rfl ?_
                go_simp
                refine ⟨fun _ => T0, ?_⟩
                try simp only [Act.put, List.getElem_toArray, List.getElem_cons_zero, List.getElem_cons_succ, List.setIfInBounds_toArray, List.set_cons_zero, List.set_cons_succ]
                refine wpAnyG_done (by kernel_rfl) ?_ _
                have mt := own_below tR T0
                have mw := own_below hown2 T0
                have mtw := ntw.below T0
                have mfe := nfe.below T0
                have mB := nBl.trans (T0.mono nBl.size)
                have mS := Nat.le_trans nS T0.size
                clear tR hown2 ntw nfe nBl T0
                go_wp2
                go_roundw
                case rel => exact ⟨j + 1, l', Y0, c0, Y1, c1, by go_num, by omega, hll, ⟨⟨mt, mw, ap2⟩, mtw⟩, mfe, ⟨ky0, ky1⟩, mS, mB⟩
                case measure => simp [intOf]; omega
      · have hjn : n = j := by omega
        subst hjn
        obtain ⟨to_, tc, rfl, hto⟩ := own_slice ht
        obtain ⟨wo, wc', rfl, hwo⟩ := own_slice hwn
        have hFa : FaSt n F b0 b1 X0 a0 X1 a1 w (.slice to_ n tc) (.slice wo n wc') l 0 [] wr := ⟨⟨⟨by simpa using ht, hwn, by simpa using htw⟩, hfe⟩, hS, hB⟩
        have hSw : w.heap.size ≤ F + 2 := by omega
        clear ht hwn htw hfe hS hB
        go_wp2
        go_loopw [95] (fun i wx => FaRel n F b0 b1 X0 a0 X1 a1 w (.slice to_ n tc) (.slice wo n wc') l i wx) (fun i _ => n - (intOf i).toNat)
        case atStart => exact ⟨0, [], rfl, Nat.zero_le _, rfl, hFa⟩
        case round =>
          clear hFa
          obtain ⟨k, A, rfl, hk, hA, hst⟩ := hrel
          by_cases hlt2 : k < n
          · obtain ⟨gt, rfl⟩ := hto (by omega)
            obtain ⟨gw, rfl⟩ := hwo (by omega)
            obtain ⟨⟨x1, x2, q⟩, hx⟩ : ∃ x, l[k]? = some x := ⟨_, List.getElem?_eq_getElem (by omega)⟩
            have hdr : l.drop k = (x1, x2, q) :: l.drop (k + 1) := by
              have h1 : k < l.length := by omega
              rw [List.getElem?_eq_getElem h1] at hx
              rw [← Option.some.inj hx, List.getElem_cons_drop]
            have tcell : wr.cell? ⟨gt, k, none⟩ = some x1 := by
              rw [hst.1.1.1.cellAt k (by omega), hdr, List.map_cons, List.getElem?_append_right (by omega), hA, Nat.sub_self]; rfl
            have wcell : wr.cell? ⟨gw, k, none⟩ = some x2 := by
              rw [hst.1.1.2.1.cellAt k (by omega), List.getElem?_map, hx]; rfl
            obtain ⟨r1, r2, hq⟩ := hst.1.1.2.2.1 (x1, x2, q) (by rw [hdr]; simp)
            have hft := hst.here hdr
            dsimp only at r1 r2 hq hft
            obtain ⟨ox, cx, rfl, hox⟩ := own_slice r1
            obtain ⟨oy, cy, rfl, _⟩ := own_slice r2
            have hki : (k : Int) < (n : Int) := by omega
            have hk0 : (0 : Int) ≤ (k : Int) := by omega
            clear hst hdr hx
            go_wp2
            refine wp_region_g (S := untilG [] (fun Z => Below wr.heap.size wr Z)) (by kernel_rfl) ?_
            obtain ⟨Z0, hZ0⟩ : ∃ Z, wr.drew = Z := ⟨_, rfl⟩
            have T0 : Below wr.heap.size wr Z0 := hZ0 ▸ (Below.refl wr.heap.size wr).drew
            rw [hZ0]
            clear hZ0
            refine wpAnyG_take [0, 2, 3, 8, 9] (i := 0) (v := (.slice (some ⟨gt, 0, none⟩) n tc)) rfl (by kernel_rfl) (by kernel_rfl) (by kernel_rfl) (by kernel_rfl) (by kernel_rfl) (by kernel_rfl) (by kernel_rfl) (by kernel_rfl) (fun _ _ _ h => h) (Or.inl ⟨by rfl, ?hy⟩) T0 ?_
            case hy =>
              intro X hX
              go_simp
            try simp only [Act.put, List.getElem_toArray, List.getElem_cons_zero, List.getElem_cons_succ, List.setIfInBounds_toArray, List.set_cons_zero, List.set_cons_succ]
            refine wpAnyG_take [1, 2, 3, 8, 9] (i := 1) (v := (.int .i64 (k : Nat))) rfl (by kernel_rfl) (by kernel_rfl) (by kernel_rfl) (by kernel_rfl) (by kernel_rfl) (by kernel_rfl) (by kernel_rfl) (by kernel_rfl) (fun _ _ _ h => h) (Or.inl ⟨by rfl, ?hy⟩) T0 ?_
            case hy =>
              intro X hX
              go_simp
            try simp only [Act.put, List.getElem_toArray, List.getElem_cons_zero, List.getElem_cons_succ, List.setIfInBounds_toArray, List.set_cons_zero, List.set_cons_succ]
            refine wpAnyG_take [2, 3, 8, 9] (i := 2) (v := (.pointer (some ⟨gt, k, none⟩))) rfl (by kernel_rfl) (by kernel_rfl) (by kernel_rfl) (by kernel_rfl) (by kernel_rfl) (by kernel_rfl) (by kernel_rfl) (by kernel_rfl) (fun _ _ _ h => h) (Or.inl ⟨by rfl, ?hy⟩) T0 ?_
            case hy =>
              intro X hX
              go_simp
            try simp only [Act.put, List.getElem_toArray, List.getElem_cons_zero, List.getElem_cons_succ, List.setIfInBounds_toArray, List.set_cons_zero, List.set_cons_succ]
            refine wpAnyG_take [3, 8, 9] (i := 3) (v := (.slice ox q.length cx)) rfl (by kernel_rfl) (by kernel_rfl) (by kernel_rfl) (by kernel_rfl) (by kernel_rfl) (by kernel_rfl) (by kernel_rfl) (by kernel_rfl) (fun _ _ _ h => h) (Or.inl ⟨by rfl, ?hy⟩) T0 ?_
            case hy =>
              intro X hX
              have e0 := at_below tcell hX
              go_simp
            try simp only [Act.put, List.getElem_toArray, List.getElem_cons_zero, List.getElem_cons_succ, List.setIfInBounds_toArray, List.set_cons_zero, List.set_cons_succ]
            refine wpAnyG_take [4, 6, 7, 8, 9] (i := 4) (v := (.slice (some ⟨gw, 0, none⟩) n wc')) rfl (by kernel_rfl) (by kernel_rfl) (by kernel_rfl) (by kernel_rfl) (by kernel_rfl) (by kernel_rfl) (by kernel_rfl) (by kernel_rfl) (fun _ _ _ h => h) (Or.inl ⟨by rfl, ?hy⟩) T0 ?_
            case hy =>
              intro X hX
              go_simp
            try simp only [Act.put, List.getElem_toArray, List.getElem_cons_zero, List.getElem_cons_succ, List.setIfInBounds_toArray, List.set_cons_zero, List.set_cons_succ]
            refine wpAnyG_take [5, 6, 7, 8, 9] (i := 5) (v := (.int .i64 (k : Nat))) rfl (by kernel_rfl) (by kernel_rfl) (by kernel_rfl) (by kernel_rfl) (by kernel_rfl) (by kernel_rfl) (by kernel_rfl) (by kernel_rfl) (fun _ _ _ h => h) (Or.inl ⟨by rfl, ?hy⟩) T0 ?_
            case hy =>
              intro X hX
              go_simp
            try simp only [Act.put, List.getElem_toArray, List.getElem_cons_zero, List.getElem_cons_succ, List.setIfInBounds_toArray, List.set_cons_zero, List.set_cons_succ]
            refine wpAnyG_take [6, 7, 8, 9] (i := 6) (v := (.pointer (some ⟨gw, k, none⟩))) rfl (by kernel_rfl) (by kernel_rfl) (by kernel_rfl) (by kernel_rfl) (by kernel_rfl) (by kernel_rfl) (by kernel_rfl) (by kernel_rfl) (fun _ _ _ h => h) (Or.inl ⟨by rfl, ?hy⟩) T0 ?_
            case hy =>
              intro X hX
              go_simp
            try simp only [Act.put, List.getElem_toArray, List.getElem_cons_zero, List.getElem_cons_succ, List.setIfInBounds_toArray, List.set_cons_zero, List.set_cons_succ]
            refine wpAnyG_take [7, 8, 9] (i := 7) (v := (.slice oy q.length cy)) rfl (by kernel_rfl) (by kernel_rfl) (by kernel_rfl) (by kernel_rfl) (by kernel_rfl) (by kernel_rfl) (by kernel_rfl) (by kernel_rfl) (fun _ _ _ h => h) (Or.inl ⟨by rfl, ?hy⟩) T0 ?_
            case hy =>
              intro X hX
              have e0 := at_below wcell hX
              go_simp
            try simp only [Act.put, List.getElem_toArray, List.getElem_cons_zero, List.getElem_cons_succ, List.setIfInBounds_toArray, List.set_cons_zero, List.set_cons_succ]
            refine wpAnyG_all (rs := [8]) (by kernel_rfl) (by simp) ?_
            intro i hi
            simp only [List.mem_cons, List.not_mem_nil, or_false] at hi
            subst hi
            refine wpOp_now rfl rfl ?_
            go_simp
            refine (same_pieces q _ _ _ _ (by omega) _ (own_below r1 T0) (own_below r2 T0)).mono ?_
            rintro e Z1 ⟨rfl, hb1⟩
            replace T0 := T0.trans (hb1.mono T0.size)
            clear hb1
            refine ⟨fun _ => T0, ?_⟩
            try simp only [Act.put, List.getElem_toArray, List.getElem_cons_zero, List.getElem_cons_succ, List.setIfInBounds_toArray, List.set_cons_zero, List.set_cons_succ]
            refine wpAnyG_all (rs := [9]) (by kernel_rfl) (by simp) ?_
            intro i hi
            simp only [List.mem_cons, List.not_mem_nil, or_false] at hi
            subst hi
            refine wpOp_now rfl rfl ?_
            go_simp
            refine ⟨fun _ => T0, ?_⟩
            try simp only [Act.put, List.getElem_toArray, List.getElem_cons_zero, List.getElem_cons_succ, List.setIfInBounds_toArray, List.set_cons_zero, List.set_cons_succ]
            refine wpAnyG_done (by kernel_rfl) ?_ _
            replace hft := hft.below T0
            replace tcell := at_old tcell T0
            clear wcell r2
            replace r1 := own_below r1 T0
            clear T0
            go_wp2
            obtain ⟨m, hm⟩ : ∃ m, q.length = m := ⟨_, rfl⟩
            rw [hm] at hq hft r1
            simp only [hm]
            go_loopw [113] (fun i wx => FbRel n F b0 b1 X0 a0 X1 a1 w (.slice (some ⟨gt, 0, none⟩) n tc) (.slice (some ⟨gw, 0, none⟩) n wc') l k A (.slice ox m cx) m i wx) (fun i _ => m - (intOf i).toNat)
            case atStart => exact ⟨0, rfl, Nat.zero_le _, hft⟩
            case round =>
              clear hft
              obtain ⟨p, rfl, hp, hf3⟩ := hrel
              have tc3 : wr.cell? ⟨gt, k, none⟩ = some (.slice ox m cx) := by
                rw [hf3.1.1.1.cellAt k (by omega), List.getElem?_append_right (by omega), hA, Nat.sub_self]; rfl
              by_cases hlt3 : p < m
              · obtain ⟨gx, rfl⟩ := hox (by omega)
                obtain ⟨xs, hxs⟩ := hf3.1.1.2.2.2.1
                have hxl := hxs.1
                have ce : ∀ i, i < 4 → ∃ u, wr.cell? ⟨gx, p * 4 + i, none⟩ = some u := fun i hi => ⟨_, (hxs.cellAt (p * 4 + i) (by omega)).trans (List.getElem?_eq_getElem (by omega))⟩
                obtain ⟨u0, d0⟩ := ce 0 (by omega)
                obtain ⟨u1, d1⟩ := ce 1 (by omega)
                obtain ⟨u2, d2⟩ := ce 2 (by omega)
                obtain ⟨u3, d3⟩ := ce 3 (by omega)
                rw [Nat.add_zero] at d0
                have y0 := hxs.frozenAt (p * 4)
                have y1 := hxs.frozenAt (p * 4 + 1)
                have y2 := hxs.frozenAt (p * 4 + 2)
                have y3 := hxs.frozenAt (p * 4 + 3)
                have hpi : (p : Int) < (m : Int) := by omega
                have hp0 : (0 : Int) ≤ (p : Int) := by omega
                clear ce hxl hxs
                go_wp2
                go_roundw
                case rel => exact ⟨p + 1, by go_num, by omega, hf3.set4 hSw _ _ _ _⟩
                case measure => simp [intOf]; omega
              · have hpi : ¬ (p : Int) < (m : Int) := by omega
                clear tc3 hto hwo hox
                go_wp2
                go_loopw [14] (fun i wx => FcRel n F b0 b1 X0 a0 X1 a1 w (.slice (some ⟨gt, 0, none⟩) n tc) (.slice (some ⟨gw, 0, none⟩) n wc') l k A i wx) (fun i _ => 20 - (intOf i).toNat)
                case atStart => exact ⟨0, _, m, rfl, Nat.zero_le _, by omega, hf3⟩
                case round =>
                  clear hf3
                  obtain ⟨c, v, m', rfl, hc20, hm', hf4⟩ := hrel
                  obtain ⟨xs, hxs⟩ := hf4.1.1.2.2.2.1
                  obtain ⟨ov, cv, rfl, _⟩ := own_slice hxs
                  by_cases hlt4 : c < 20
                  · have hci : (c : Int) < 20 := by omega
                    have tc4 : wr.cell? ⟨gt, k, none⟩ = some (.slice ov m' cv) := by
                      rw [hf4.1.1.1.cellAt k (by omega), List.getElem?_append_right (by omega), hA, Nat.sub_self]; rfl
                    have tq := hf4.1.1.1
                    have hwS := hf4.2.1
                    go_wp2_with (first | (at_builtin; refine wpList_append_lies _ rfl _ _ 29 rfl (F + 2) 24 i1 (.agg #[.int .i64 0, .int .i64 0, .int .i32 0, .bool false]) 4 24 Try.underlying29 hj1 hu0 hu1 hu2 rfl (by decide) _ _ _ rfl (hxs.alloc (.cells #[.int .i64 0, .int .i64 0, .int .i32 0, .bool false] 24)) ⟨wr.heap.size, 0, none⟩ 1 1 [.int .i64 0, .int .i64 0, .int .i32 0, .bool false] rfl rfl (World.news_of_block (cs := #[.int .i64 0, .int .i64 0, .int .i32 0, .bool false]) (t := 24) (fr := (0, 0)) (World.alloc_heap_new wr _)) (fun x hx => by simp only [List.mem_cons, List.not_mem_nil, or_false] at hx; rcases hx with rfl | rfl | rfl | rfl <;> rfl) (by omega) (by unfold maxLen; omega) (by omega) (by simp; omega) _ rfl ?_; intro g1 c1' v1 hown1 hg1 hat1 hlt1; have tq1 := (tq.alloc (.cells #[.int .i64 0, .int .i64 0, .int .i32 0, .bool false] 24)).kept hg1 (rows_apart tq hxs (by decide)); have tf1 := tq1.frozenAt k; have tc5 : v1.cell? ⟨gt, k, none⟩ = some (.slice ov m' cv) := (by rw [tq1.cellAt k (by omega), List.getElem?_append_right (by omega), hA, Nat.sub_self]; rfl)))
                    go_roundw
                    case rel => exact ⟨c + 1, _, m' + 1, by go_num, by omega, by omega, hf4.lay hSw hap hA hg1 hown1 hat1 (by simp)⟩
                    case measure => simp [intOf]; omega
                  · have hci : ¬ (c : Int) < 20 := by omega
                    go_wp2
                    go_roundw
                    case rel => exact ⟨k + 1, A ++ [.slice ov m' cv], by go_num, by omega, by simp [hA], hf4.on⟩
                    case measure => simp [intOf]; omega
          · have hkn : ¬ (k : Int) < (n : Int) := by omega
            have hfe := hst.1.2
            have hS := hst.2.1
            have hB := hst.2.2
            have hy0 : n * 1024 ≤ 262144 := by omega
            have hz : (X0.size ≤ 262144 ∧ X1.size ≤ 262144) := ⟨by omega, by omega⟩
            clear hst hto hwo hap hx0 hx1
            go_wp2
            go_loopw [139] (fun i wx => FzRel F b0 b1 w i wx) (fun i _ => 2 - (intOf i).toNat)
            case atStart => exact ⟨0, _, _, _, _, rfl, by omega, hfe, hz, hS, hB⟩
            case round =>
              clear hfe hS hB hz
              obtain ⟨K, X0, a0, X1, a1, rfl, hK, hfe, ⟨hx0, hx1⟩, hS, hB⟩ := hrel
              have hk0 := hfe.2.2.1
              have hk1 := hfe.2.2.2
              have ha0 := hk0.2.1
              have ha1 := hk1.2.1
              have hFl := hfe.1.2.lt
              rcases (show K = 0 ∨ K = 1 ∨ K = 2 by omega) with rfl | rfl | rfl
              · obtain ⟨p7, p8⟩ := end_same X0 a0 hk0
                have hql : (posns (X0.extract a0 X0.size)).length ≤ 1048576 := by have := posns_len (X0.extract a0 X0.size); rw [ByteArray.size_extract] at this; omega
                have g5 : ByteArray.empty.toList.isEmpty = true := by kernel_rfl
                have g6 : (posns ByteArray.empty).length = 0 := by kernel_rfl
                go_wp2
                refine wp_region_g (S := untilG [6] (fun Z => Z.cell? ⟨F, 0, none⟩ = some (.pointer (some ⟨b0, 0, none⟩)))) (by kernel_rfl) ?_
                obtain ⟨Z0, hZ0⟩ : ∃ Z, wr.drew = Z := ⟨_, rfl⟩
                have T0 : Below wr.heap.size wr Z0 := hZ0 ▸ (Below.refl wr.heap.size wr).drew
                rw [hZ0]
                clear hZ0
                have U0 : Z0.cell? ⟨F, 0, none⟩ = some (.pointer (some ⟨b0, 0, none⟩)) := at_old (hfe.1.1.cell 0) T0
                refine wpAnyG_take [0, 1, 2, 3] (i := 0) (v := (.int .i64 0)) rfl (by kernel_rfl) (by kernel_rfl) (by kernel_rfl) (by kernel_rfl) (by kernel_rfl) (by kernel_rfl) (by kernel_rfl) (by kernel_rfl) (fun _ _ _ h => h) (Or.inl ⟨by rfl, ?hy⟩) U0 ?_
                case hy =>
                  intro X hX
                  go_simp
                try simp only [Act.put, List.getElem_toArray, List.getElem_cons_zero, List.getElem_cons_succ, List.setIfInBounds_toArray, List.set_cons_zero, List.set_cons_succ]
                refine wpAnyG_take [1, 2, 3] (i := 1) (v := (.pointer (some ⟨F, 0, none⟩))) rfl (by kernel_rfl) (by kernel_rfl) (by kernel_rfl) (by kernel_rfl) (by kernel_rfl) (by kernel_rfl) (by kernel_rfl) (by kernel_rfl) (fun _ _ _ h => h) (Or.inl ⟨by rfl, ?hy⟩) U0 ?_
                case hy =>
                  intro X hX
                  go_simp
                try simp only [Act.put, List.getElem_toArray, List.getElem_cons_zero, List.getElem_cons_succ, List.setIfInBounds_toArray, List.set_cons_zero, List.set_cons_succ]
                refine wpAnyG_take [2, 3] (i := 2) (v := (.pointer (some ⟨b0, 0, none⟩))) rfl (by kernel_rfl) (by kernel_rfl) (by kernel_rfl) (by kernel_rfl) (by kernel_rfl) (by kernel_rfl) (by kernel_rfl) (by kernel_rfl) (fun _ _ _ h => h) (Or.inl ⟨by rfl, ?hy⟩) U0 ?_
                case hy =>
                  intro X hX
                  have e0 : X.cell? ⟨F, 0, none⟩ = some (.pointer (some ⟨b0, 0, none⟩)) := hX
                  go_simp
                try simp only [Act.put, List.getElem_toArray, List.getElem_cons_zero, List.getElem_cons_succ, List.setIfInBounds_toArray, List.set_cons_zero, List.set_cons_succ]
                refine wpAnyG_take [4, 5] (i := 4) (v := (.int .i64 0)) rfl (by kernel_rfl) (by kernel_rfl) (by kernel_rfl) (by kernel_rfl) (by kernel_rfl) (by kernel_rfl) (by kernel_rfl) (by kernel_rfl) (fun _ _ _ h => h) (Or.inl ⟨by rfl, ?hy⟩) U0 ?_
                case hy =>
                  intro X hX
                  go_simp
                try simp only [Act.put, List.getElem_toArray, List.getElem_cons_zero, List.getElem_cons_succ, List.setIfInBounds_toArray, List.set_cons_zero, List.set_cons_succ]
                refine wpAnyG_take [5] (i := 5) (v := (.pointer (some ⟨F + 1, 0, none⟩))) rfl (by kernel_rfl) (by kernel_rfl) (by kernel_rfl) (by kernel_rfl) (by kernel_rfl) (by kernel_rfl) (by kernel_rfl) (by kernel_rfl) (fun _ _ _ h => h) (Or.inl ⟨by rfl, ?hy⟩) U0 ?_
                case hy =>
                  intro X hX
                  go_simp
                try simp only [Act.put, List.getElem_toArray, List.getElem_cons_zero, List.getElem_cons_succ, List.setIfInBounds_toArray, List.set_cons_zero, List.set_cons_succ]
                have fz := hfe.below T0
                have dF := fz.2.1.1
                have dG := fz.1.2
                have dz : F + 1 < Z0.heap.size := Nat.lt_of_lt_of_le hFl T0.size
                have db : b0 < Z0.heap.size := dF.lt
                have kB := hB.trans (T0.mono hB.size)
                have kS := Nat.le_trans hS T0.size
                refine wpAnyG_all (rs := [3]) (by kernel_rfl) (by simp) ?_
                intro i hi
                simp only [List.mem_cons, List.not_mem_nil, or_false] at hi
                subst hi
                refine wpOp_now rfl rfl ?_
                go_simp
                refine (end_any a0 (by omega) Z0 b0 _ dF).mono ?_
                rintro e Y1 ⟨av, rfl, rA, gA, fA⟩
                have dG1 := dG.kept gA (by simp; omega)
                have U1 : Y1.cell? ⟨F, 0, none⟩ = some (.pointer (some ⟨b0, 0, none⟩)) := (fz.1.1.kept gA (by simp; omega)).cell 0
                refine ⟨fun _ => U1, ?_⟩
                try simp only [Act.put, List.getElem_toArray, List.getElem_cons_zero, List.getElem_cons_succ, List.setIfInBounds_toArray, List.set_cons_zero, List.set_cons_succ]
                refine wpAnyG_all (rs := [6]) (by kernel_rfl) (by simp) ?_
                intro i hi
                simp only [List.mem_cons, List.not_mem_nil, or_false] at hi
                subst hi
                refine wpOp_now rfl rfl ?_
                go_simp
                refine (endR_any X0 (by omega) a0 0 ha0 Y1 (F + 1) _ dG1 rfl rfl).mono ?_
                rintro e Y2 ⟨bv, rfl, rB, gB, fB⟩
                have hmid := mid_A (cs := (rfC ByteArray.empty 0 X1 a1)) (qz a0 (X0.extract a0 X0.size) (posns (X0.extract a0 X0.size))) (by rw [qz_len]; exact hql) p7 p8 (qz_len _ _ _) (pcz_qc _ _ _).symm dz (by omega) rA gA fA rB gB fB
                obtain ⟨q', hq', rA', rB', hf, hg, hc⟩ := hmid
                have fe2 : Feeds Y2 F (F + 1) b0 b1 ByteArray.empty 0 X1 a1 := ⟨⟨hc.blk fz.1.1 (by omega) (by omega), hg⟩, ⟨hf, hc.fd fz.2.1.2 (by omega) (by omega)⟩, ⟨feeds_zero, fz.2.2.2⟩⟩
                have kB2 := hc.below kB (by omega) (by omega)
                have kS2 := Nat.le_trans kS hc.size
                clear rA gA fA rB gB fB dG1 U1 hf hg
                refine ⟨fun h => (by cases h), ?_⟩
                try simp only [Act.put, List.getElem_toArray, List.getElem_cons_zero, List.getElem_cons_succ, List.setIfInBounds_toArray, List.set_cons_zero, List.set_cons_succ]
                refine wpAnyG_all (rs := [7]) (by kernel_rfl) (by simp) ?_
                intro i hi
                simp only [List.mem_cons, List.not_mem_nil, or_false] at hi
                subst hi
                refine wpOp_now rfl rfl ?_
                go_simp
                refine (same_pieces q' _ _ _ _ (by omega) Y2 rA' rB').mono ?_
                rintro e Y3 ⟨rfl, hb3⟩
                have fe3 := fe2.below hb3
                have kB3 := kB2.trans (hb3.mono kB2.size)
                have kS3 := Nat.le_trans kS2 hb3.size
                have eF3 : Y3.cell? ⟨F, 0, none⟩ = some (.pointer (some ⟨b0, 0, none⟩)) := fe3.1.1.cell 0
                refine ⟨fun h => (by cases h), ?_⟩
                try simp only [Act.put, List.getElem_toArray, List.getElem_cons_zero, List.getElem_cons_succ, List.setIfInBounds_toArray, List.set_cons_zero, List.set_cons_succ]
                refine wpAnyG_all (rs := [8]) (by kernel_rfl) (by simp) ?_
                intro i hi
                simp only [List.mem_cons, List.not_mem_nil, or_false] at hi
                subst hi
                refine wpOp_now rfl rfl ?_
                go_simp
                refine ⟨fun h => (by cases h), ?_⟩
                try simp only [Act.put, List.getElem_toArray, List.getElem_cons_zero, List.getElem_cons_succ, List.setIfInBounds_toArray, List.set_cons_zero, List.set_cons_succ]
                refine wpAnyG_all (rs := [9]) (by kernel_rfl) (by simp) ?_
                intro i hi
                simp only [List.mem_cons, List.not_mem_nil, or_false] at hi
                subst hi
                refine wpOp_now rfl rfl ?_
                go_simp
                refine ⟨fun h => (by cases h), ?_⟩
                try simp only [Act.put, List.getElem_toArray, List.getElem_cons_zero, List.getElem_cons_succ, List.setIfInBounds_toArray, List.set_cons_zero, List.set_cons_succ]
                refine wpAnyG_all (rs := [10]) (by kernel_rfl) (by simp) ?_
                intro i hi
                simp only [List.mem_cons, List.not_mem_nil, or_false] at hi
                subst hi
                refine wpOp_open rfl (by rfl) ?_
                go_simp
                refine ⟨fun h => (by cases h), ?_⟩
                try simp only [Act.put, List.getElem_toArray, List.getElem_cons_zero, List.getElem_cons_succ, List.setIfInBounds_toArray, List.set_cons_zero, List.set_cons_succ]
                refine wpAnyG_all (rs := [11]) (by kernel_rfl) (by simp) ?_
                intro i hi
                simp only [List.mem_cons, List.not_mem_nil, or_false] at hi
                subst hi
                refine wpOp_open rfl (by rfl) ?_
                go_simp
                refine ⟨fun h => (by cases h), ?_⟩
                try simp only [Act.put, List.getElem_toArray, List.getElem_cons_zero, List.getElem_cons_succ, List.setIfInBounds_toArray, List.set_cons_zero, List.set_cons_succ]
                refine wpAnyG_all (rs := [12]) (by kernel_rfl) (by simp) ?_
                intro i hi
                simp only [List.mem_cons, List.not_mem_nil, or_false] at hi
                subst hi
                refine wpOp_open rfl (by rfl) ?_
                go_simp
                refine ⟨fun h => (by cases h), ?_⟩
                try simp only [Act.put, List.getElem_toArray, List.getElem_cons_zero, List.getElem_cons_succ, List.setIfInBounds_toArray, List.set_cons_zero, List.set_cons_succ]
                refine wpAnyG_all (rs := [13]) (by kernel_rfl) (by simp) ?_
                intro i hi
                simp only [List.mem_cons, List.not_mem_nil, or_false] at hi
                subst hi
                refine wpOp_open rfl (by rfl) ?_
                go_simp
                refine (held_any Y3 b0 _ _ fe3.2.1.1).mono ?_
                rintro e Y4 ⟨rfl, hb4⟩
                have fe4 := fe3.below hb4
                have kB4 := kB3.trans (hb4.mono kB3.size)
                have kS4 := Nat.le_trans kS3 hb4.size
                have eF4 : Y4.cell? ⟨F, 0, none⟩ = some (.pointer (some ⟨b0, 0, none⟩)) := fe4.1.1.cell 0
                refine ⟨fun h => (by cases h), ?_⟩
                try simp only [Act.put, List.getElem_toArray, List.getElem_cons_zero, List.getElem_cons_succ, List.setIfInBounds_toArray, List.set_cons_zero, List.set_cons_succ]
                refine wpAnyG_all (rs := [14]) (by kernel_rfl) (by simp) ?_
                intro i hi
                simp only [List.mem_cons, List.not_mem_nil, or_false] at hi
                subst hi
                refine wpOp_open rfl (by rfl) ?_
                go_simp
                refine ⟨fun h => (by cases h), ?_⟩
                try simp only [Act.put, List.getElem_toArray, List.getElem_cons_zero, List.getElem_cons_succ, List.setIfInBounds_toArray, List.set_cons_zero, List.set_cons_succ]
                refine wpAnyG_all (rs := [15]) (by kernel_rfl) (by simp) ?_
                intro i hi
                simp only [List.mem_cons, List.not_mem_nil, or_false] at hi
                subst hi
                refine wpOp_now rfl rfl ?_
                go_simp
                refine ⟨fun h => (by cases h), ?_⟩
                try simp only [Act.put, List.getElem_toArray, List.getElem_cons_zero, List.getElem_cons_succ, List.setIfInBounds_toArray, List.set_cons_zero, List.set_cons_succ]
                refine wpAnyG_all (rs := [16]) (by kernel_rfl) (by simp) ?_
                intro i hi
                simp only [List.mem_cons, List.not_mem_nil, or_false] at hi
                subst hi
                refine wpOp_now rfl rfl ?_
                go_simp
                refine ⟨fun h => (by cases h), ?_⟩
                try simp only [Act.put, List.getElem_toArray, List.getElem_cons_zero, List.getElem_cons_succ, List.setIfInBounds_toArray, List.set_cons_zero, List.set_cons_succ]
                refine wpAnyG_all (rs := [17]) (by kernel_rfl) (by simp) ?_
                intro i hi
                simp only [List.mem_cons, List.not_mem_nil, or_false] at hi
                subst hi
                refine wpOp_open rfl (by rfl) ?_
                go_simp
                refine ⟨fun h => (by cases h), ?_⟩
                try simp only [Act.put, List.getElem_toArray, List.getElem_cons_zero, List.getElem_cons_succ, List.setIfInBounds_toArray, List.set_cons_zero, List.set_cons_succ]
                refine wpAnyG_all (rs := [18]) (by kernel_rfl) (by simp) ?_
                intro i hi
                simp only [List.mem_cons, List.not_mem_nil, or_false] at hi
                subst hi
                refine wpOp_open rfl (by rfl) ?_
                go_simp
                refine ⟨fun h => (by cases h), ?_⟩
                try simp only [Act.put, List.getElem_toArray, List.getElem_cons_zero, List.getElem_cons_succ, List.setIfInBounds_toArray, List.set_cons_zero, List.set_cons_succ]
                refine wpAnyG_all (rs := [19]) (by kernel_rfl) (by simp) ?_
                intro i hi
                simp only [List.mem_cons, List.not_mem_nil, or_false] at hi
                subst hi
                refine wpOp_open rfl (by rfl) ?_
                go_simp
                refine ⟨fun h => (by cases h), ?_⟩
                try simp only [Act.put, List.getElem_toArray, List.getElem_cons_zero, List.getElem_cons_succ, List.setIfInBounds_toArray, List.set_cons_zero, List.set_cons_succ]
                refine wpAnyG_all (rs := [20]) (by kernel_rfl) (by simp) ?_
                intro i hi
                simp only [List.mem_cons, List.not_mem_nil, or_false] at hi
                subst hi
                refine wpOp_open rfl (by rfl) ?_
                go_simp
                refine (end_any 0 (by omega) Y4 b0 ByteArray.empty fe4.2.1.1).mono ?_
                rintro e Y5 ⟨cv, rfl, rC, gC, fC⟩
                rw [g6] at rC
                obtain ⟨oc, cc, rfl, _⟩ := own_slice rC
                have fe5 : Feeds Y5 F (F + 1) b0 b1 ByteArray.empty 0 X1 a1 := ⟨⟨fe4.1.1.kept gC (by simp; omega), fe4.1.2.kept gC (by simp; omega)⟩, ⟨fC, fe4.2.1.2.kept gC (by simp; omega)⟩, fe4.2.2⟩
                have kB5 := kB4.grown gC kB4.size (fun j hj => by cases hj; omega)
                have kS5 := Nat.le_trans kS4 gC.size
                refine ⟨fun h => (by cases h), ?_⟩
                try simp only [Act.put, List.getElem_toArray, List.getElem_cons_zero, List.getElem_cons_succ, List.setIfInBounds_toArray, List.set_cons_zero, List.set_cons_succ]
                refine wpAnyG_all (rs := [21]) (by kernel_rfl) (by simp) ?_
                intro i hi
                simp only [List.mem_cons, List.not_mem_nil, or_false] at hi
                subst hi
                refine wpOp_open rfl (by rfl) ?_
                go_simp
                refine ⟨fun h => (by cases h), ?_⟩
                try simp only [Act.put, List.getElem_toArray, List.getElem_cons_zero, List.getElem_cons_succ, List.setIfInBounds_toArray, List.set_cons_zero, List.set_cons_succ]
                refine wpAnyG_all (rs := [22]) (by kernel_rfl) (by simp) ?_
                intro i hi
                simp only [List.mem_cons, List.not_mem_nil, or_false] at hi
                subst hi
                refine wpOp_open rfl (by rfl) ?_
                go_simp
                refine ⟨fun h => (by cases h), ?_⟩
                try simp only [Act.put, List.getElem_toArray, List.getElem_cons_zero, List.getElem_cons_succ, List.setIfInBounds_toArray, List.set_cons_zero, List.set_cons_succ]
                refine wpAnyG_all (rs := [23]) (by kernel_rfl) (by simp) ?_
                intro i hi
                simp only [List.mem_cons, List.not_mem_nil, or_false] at hi
                subst hi
                refine wpOp_now rfl rfl ?_
                go_simp
                refine ⟨fun h => (by cases h), ?_⟩
                try simp only [Act.put, List.getElem_toArray, List.getElem_cons_zero, List.getElem_cons_succ, List.setIfInBounds_toArray, List.set_cons_zero, List.set_cons_succ]
                refine wpAnyG_done (by kernel_rfl) ?_ _
                clear fe2 fe3 fe4 rA' rB' hc fz dF dG hfe
                go_wp2
                go_roundw
                case rel => exact ⟨1, _, _, _, _, by go_num, by omega, fe5, ⟨Nat.zero_le _, hx1⟩, kS5, kB5⟩
                case measure => simp [intOf]
              · obtain ⟨p7, p8⟩ := end_same X1 a1 hk1
                have hql : (posns (X1.extract a1 X1.size)).length ≤ 1048576 := by have := posns_len (X1.extract a1 X1.size); rw [ByteArray.size_extract] at this; omega
                have g5 : ByteArray.empty.toList.isEmpty = true := by kernel_rfl
                have g6 : (posns ByteArray.empty).length = 0 := by kernel_rfl
                go_wp2
                refine wp_region_g (S := untilG [6] (fun Z => Z.cell? ⟨F, 1, none⟩ = some (.pointer (some ⟨b1, 0, none⟩)))) (by kernel_rfl) ?_
                obtain ⟨Z0, hZ0⟩ : ∃ Z, wr.drew = Z := ⟨_, rfl⟩
                have T0 : Below wr.heap.size wr Z0 := hZ0 ▸ (Below.refl wr.heap.size wr).drew
                rw [hZ0]
                clear hZ0
                have U0 : Z0.cell? ⟨F, 1, none⟩ = some (.pointer (some ⟨b1, 0, none⟩)) := at_old (hfe.1.1.cell 1) T0
                refine wpAnyG_take [0, 1, 2, 3] (i := 0) (v := (.int .i64 1)) rfl (by kernel_rfl) (by kernel_rfl) (by kernel_rfl) (by kernel_rfl) (by kernel_rfl) (by kernel_rfl) (by kernel_rfl) (by kernel_rfl) (fun _ _ _ h => h) (Or.inl ⟨by rfl, ?hy⟩) U0 ?_
                case hy =>
                  intro X hX
                  go_simp
                try simp only [Act.put, List.getElem_toArray, List.getElem_cons_zero, List.getElem_cons_succ, List.setIfInBounds_toArray, List.set_cons_zero, List.set_cons_succ]
                refine wpAnyG_take [1, 2, 3] (i := 1) (v := (.pointer (some ⟨F, 1, none⟩))) rfl (by kernel_rfl) (by kernel_rfl) (by kernel_rfl) (by kernel_rfl) (by kernel_rfl) (by kernel_rfl) (by kernel_rfl) (by kernel_rfl) (fun _ _ _ h => h) (Or.inl ⟨by rfl, ?hy⟩) U0 ?_
                case hy =>
                  intro X hX
                  go_simp
                try simp only [Act.put, List.getElem_toArray, List.getElem_cons_zero, List.getElem_cons_succ, List.setIfInBounds_toArray, List.set_cons_zero, List.set_cons_succ]
                refine wpAnyG_take [2, 3] (i := 2) (v := (.pointer (some ⟨b1, 0, none⟩))) rfl (by kernel_rfl) (by kernel_rfl) (by kernel_rfl) (by kernel_rfl) (by kernel_rfl) (by kernel_rfl) (by kernel_rfl) (by kernel_rfl) (fun _ _ _ h => h) (Or.inl ⟨by rfl, ?hy⟩) U0 ?_
                case hy =>
                  intro X hX
                  have e0 : X.cell? ⟨F, 1, none⟩ = some (.pointer (some ⟨b1, 0, none⟩)) := hX
                  go_simp
                try simp only [Act.put, List.getElem_toArray, List.getElem_cons_zero, List.getElem_cons_succ, List.setIfInBounds_toArray, List.set_cons_zero, List.set_cons_succ]
                refine wpAnyG_take [4, 5] (i := 4) (v := (.int .i64 1)) rfl (by kernel_rfl) (by kernel_rfl) (by kernel_rfl) (by kernel_rfl) (by kernel_rfl) (by kernel_rfl) (by kernel_rfl) (by kernel_rfl) (fun _ _ _ h => h) (Or.inl ⟨by rfl, ?hy⟩) U0 ?_
                case hy =>
                  intro X hX
                  go_simp
                try simp only [Act.put, List.getElem_toArray, List.getElem_cons_zero, List.getElem_cons_succ, List.setIfInBounds_toArray, List.set_cons_zero, List.set_cons_succ]
                refine wpAnyG_take [5] (i := 5) (v := (.pointer (some ⟨F + 1, 2, none⟩))) rfl (by kernel_rfl) (by kernel_rfl) (by kernel_rfl) (by kernel_rfl) (by kernel_rfl) (by kernel_rfl) (by kernel_rfl) (by kernel_rfl) (fun _ _ _ h => h) (Or.inl ⟨by rfl, ?hy⟩) U0 ?_
                case hy =>
                  intro X hX
                  go_simp
                try simp only [Act.put, List.getElem_toArray, List.getElem_cons_zero, List.getElem_cons_succ, List.setIfInBounds_toArray, List.set_cons_zero, List.set_cons_succ]
                have fz := hfe.below T0
                have dF := fz.2.1.2
                have dG := fz.1.2
                have dz : F + 1 < Z0.heap.size := Nat.lt_of_lt_of_le hFl T0.size
                have db : b1 < Z0.heap.size := dF.lt
                have kB := hB.trans (T0.mono hB.size)
                have kS := Nat.le_trans hS T0.size
                refine wpAnyG_all (rs := [3]) (by kernel_rfl) (by simp) ?_
                intro i hi
                simp only [List.mem_cons, List.not_mem_nil, or_false] at hi
                subst hi
                refine wpOp_now rfl rfl ?_
                go_simp
                refine (end_any a1 (by omega) Z0 b1 _ dF).mono ?_
                rintro e Y1 ⟨av, rfl, rA, gA, fA⟩
                have dG1 := dG.kept gA (by simp; omega)
                have U1 : Y1.cell? ⟨F, 1, none⟩ = some (.pointer (some ⟨b1, 0, none⟩)) := (fz.1.1.kept gA (by simp; omega)).cell 1
                refine ⟨fun _ => U1, ?_⟩
                try simp only [Act.put, List.getElem_toArray, List.getElem_cons_zero, List.getElem_cons_succ, List.setIfInBounds_toArray, List.set_cons_zero, List.set_cons_succ]
                refine wpAnyG_all (rs := [6]) (by kernel_rfl) (by simp) ?_
                intro i hi
                simp only [List.mem_cons, List.not_mem_nil, or_false] at hi
                subst hi
                refine wpOp_now rfl rfl ?_
                go_simp
                refine (endR_any X1 (by omega) a1 2 ha1 Y1 (F + 1) _ dG1 rfl rfl).mono ?_
                rintro e Y2 ⟨bv, rfl, rB, gB, fB⟩
                have hmid := mid_A (cs := (rfC X0 a0 ByteArray.empty 0)) (qz a1 (X1.extract a1 X1.size) (posns (X1.extract a1 X1.size))) (by rw [qz_len]; exact hql) p7 p8 (qz_len _ _ _) (pcz_qc _ _ _).symm dz (by omega) rA gA fA rB gB fB
                obtain ⟨q', hq', rA', rB', hf, hg, hc⟩ := hmid
                have fe2 : Feeds Y2 F (F + 1) b0 b1 X0 a0 ByteArray.empty 0 := ⟨⟨hc.blk fz.1.1 (by omega) (by omega), hg⟩, ⟨hc.fd fz.2.1.1 (by omega) (by omega), hf⟩, ⟨fz.2.2.1, feeds_zero⟩⟩
                have kB2 := hc.below kB (by omega) (by omega)
                have kS2 := Nat.le_trans kS hc.size
                clear rA gA fA rB gB fB dG1 U1 hf hg
                refine ⟨fun h => (by cases h), ?_⟩
                try simp only [Act.put, List.getElem_toArray, List.getElem_cons_zero, List.getElem_cons_succ, List.setIfInBounds_toArray, List.set_cons_zero, List.set_cons_succ]
                refine wpAnyG_all (rs := [7]) (by kernel_rfl) (by simp) ?_
                intro i hi
                simp only [List.mem_cons, List.not_mem_nil, or_false] at hi
                subst hi
                refine wpOp_now rfl rfl ?_
                go_simp
                refine (same_pieces q' _ _ _ _ (by omega) Y2 rA' rB').mono ?_
                rintro e Y3 ⟨rfl, hb3⟩
                have fe3 := fe2.below hb3
                have kB3 := kB2.trans (hb3.mono kB2.size)
                have kS3 := Nat.le_trans kS2 hb3.size
                have eF3 : Y3.cell? ⟨F, 1, none⟩ = some (.pointer (some ⟨b1, 0, none⟩)) := fe3.1.1.cell 1
                refine ⟨fun h => (by cases h), ?_⟩
                try simp only [Act.put, List.getElem_toArray, List.getElem_cons_zero, List.getElem_cons_succ, List.setIfInBounds_toArray, List.set_cons_zero, List.set_cons_succ]
                refine wpAnyG_all (rs := [8]) (by kernel_rfl) (by simp) ?_
                intro i hi
                simp only [List.mem_cons, List.not_mem_nil, or_false] at hi
                subst hi
                refine wpOp_now rfl rfl ?_
                go_simp
                refine ⟨fun h => (by cases h), ?_⟩
                try simp only [Act.put, List.getElem_toArray, List.getElem_cons_zero, List.getElem_cons_succ, List.setIfInBounds_toArray, List.set_cons_zero, List.set_cons_succ]
                refine wpAnyG_all (rs := [9]) (by kernel_rfl) (by simp) ?_
                intro i hi
                simp only [List.mem_cons, List.not_mem_nil, or_false] at hi
                subst hi
                refine wpOp_now rfl rfl ?_
                go_simp
                refine ⟨fun h => (by cases h), ?_⟩
                try simp only [Act.put, List.getElem_toArray, List.getElem_cons_zero, List.getElem_cons_succ, List.setIfInBounds_toArray, List.set_cons_zero, List.set_cons_succ]
                refine wpAnyG_all (rs := [10]) (by kernel_rfl) (by simp) ?_
                intro i hi
                simp only [List.mem_cons, List.not_mem_nil, or_false] at hi
                subst hi
                refine wpOp_open rfl (by rfl) ?_
                go_simp
                refine ⟨fun h => (by cases h), ?_⟩
                try simp only [Act.put, List.getElem_toArray, List.getElem_cons_zero, List.getElem_cons_succ, List.setIfInBounds_toArray, List.set_cons_zero, List.set_cons_succ]
                refine wpAnyG_all (rs := [11]) (by kernel_rfl) (by simp) ?_
                intro i hi
                simp only [List.mem_cons, List.not_mem_nil, or_false] at hi
                subst hi
                refine wpOp_open rfl (by rfl) ?_
                go_simp
                refine ⟨fun h => (by cases h), ?_⟩
                try simp only [Act.put, List.getElem_toArray, List.getElem_cons_zero, List.getElem_cons_succ, List.setIfInBounds_toArray, List.set_cons_zero, List.set_cons_succ]
                refine wpAnyG_all (rs := [12]) (by kernel_rfl) (by simp) ?_
                intro i hi
                simp only [List.mem_cons, List.not_mem_nil, or_false] at hi
                subst hi
                refine wpOp_open rfl (by rfl) ?_
                go_simp
                refine ⟨fun h => (by cases h), ?_⟩
                try simp only [Act.put, List.getElem_toArray, List.getElem_cons_zero, List.getElem_cons_succ, List.setIfInBounds_toArray, List.set_cons_zero, List.set_cons_succ]
                refine wpAnyG_all (rs := [13]) (by kernel_rfl) (by simp) ?_
                intro i hi
                simp only [List.mem_cons, List.not_mem_nil, or_false] at hi
                subst hi
                refine wpOp_open rfl (by rfl) ?_
                go_simp
                refine (held_any Y3 b1 _ _ fe3.2.1.2).mono ?_
                rintro e Y4 ⟨rfl, hb4⟩
                have fe4 := fe3.below hb4
                have kB4 := kB3.trans (hb4.mono kB3.size)
                have kS4 := Nat.le_trans kS3 hb4.size
                have eF4 : Y4.cell? ⟨F, 1, none⟩ = some (.pointer (some ⟨b1, 0, none⟩)) := fe4.1.1.cell 1
                refine ⟨fun h => (by cases h), ?_⟩
                try simp only [Act.put, List.getElem_toArray, List.getElem_cons_zero, List.getElem_cons_succ, List.setIfInBounds_toArray, List.set_cons_zero, List.set_cons_succ]
                refine wpAnyG_all (rs := [14]) (by kernel_rfl) (by simp) ?_
                intro i hi
                simp only [List.mem_cons, List.not_mem_nil, or_false] at hi
                subst hi
                refine wpOp_open rfl (by rfl) ?_
                go_simp
                refine ⟨fun h => (by cases h), ?_⟩
                try simp only [Act.put, List.getElem_toArray, List.getElem_cons_zero, List.getElem_cons_succ, List.setIfInBounds_toArray, List.set_cons_zero, List.set_cons_succ]
                refine wpAnyG_all (rs := [15]) (by kernel_rfl) (by simp) ?_
                intro i hi
                simp only [List.mem_cons, List.not_mem_nil, or_false] at hi
                subst hi
                refine wpOp_now rfl rfl ?_
                go_simp
                refine ⟨fun h => (by cases h), ?_⟩
                try simp only [Act.put, List.getElem_toArray, List.getElem_cons_zero, List.getElem_cons_succ, List.setIfInBounds_toArray, List.set_cons_zero, List.set_cons_succ]
                refine wpAnyG_all (rs := [16]) (by kernel_rfl) (by simp) ?_
                intro i hi
                simp only [List.mem_cons, List.not_mem_nil, or_false] at hi
                subst hi
                refine wpOp_now rfl rfl ?_
                go_simp
                refine ⟨fun h => (by cases h), ?_⟩
                try simp only [Act.put, List.getElem_toArray, List.getElem_cons_zero, List.getElem_cons_succ, List.setIfInBounds_toArray, List.set_cons_zero, List.set_cons_succ]
                refine wpAnyG_all (rs := [17]) (by kernel_rfl) (by simp) ?_
                intro i hi
                simp only [List.mem_cons, List.not_mem_nil, or_false] at hi
                subst hi
                refine wpOp_open rfl (by rfl) ?_
                go_simp
                refine ⟨fun h => (by cases h), ?_⟩
                try simp only [Act.put, List.getElem_toArray, List.getElem_cons_zero, List.getElem_cons_succ, List.setIfInBounds_toArray, List.set_cons_zero, List.set_cons_succ]
                refine wpAnyG_all (rs := [18]) (by kernel_rfl) (by simp) ?_
                intro i hi
                simp only [List.mem_cons, List.not_mem_nil, or_false] at hi
                subst hi
                refine wpOp_open rfl (by rfl) ?_
                go_simp
                refine ⟨fun h => (by cases h), ?_⟩
                try simp only [Act.put, List.getElem_toArray, List.getElem_cons_zero, List.getElem_cons_succ, List.setIfInBounds_toArray, List.set_cons_zero, List.set_cons_succ]
                refine wpAnyG_all (rs := [19]) (by kernel_rfl) (by simp) ?_
                intro i hi
                simp only [List.mem_cons, List.not_mem_nil, or_false] at hi
                subst hi
                refine wpOp_open rfl (by rfl) ?_
                go_simp
                refine ⟨fun h => (by cases h), ?_⟩
                try simp only [Act.put, List.getElem_toArray, List.getElem_cons_zero, List.getElem_cons_succ, List.setIfInBounds_toArray, List.set_cons_zero, List.set_cons_succ]
                refine wpAnyG_all (rs := [20]) (by kernel_rfl) (by simp) ?_
                intro i hi
                simp only [List.mem_cons, List.not_mem_nil, or_false] at hi
                subst hi
                refine wpOp_open rfl (by rfl) ?_
                go_simp
                refine (end_any 0 (by omega) Y4 b1 ByteArray.empty fe4.2.1.2).mono ?_
                rintro e Y5 ⟨cv, rfl, rC, gC, fC⟩
                rw [g6] at rC
                obtain ⟨oc, cc, rfl, _⟩ := own_slice rC
                have fe5 : Feeds Y5 F (F + 1) b0 b1 X0 a0 ByteArray.empty 0 := ⟨⟨fe4.1.1.kept gC (by simp; omega), fe4.1.2.kept gC (by simp; omega)⟩, ⟨fe4.2.1.1.kept gC (by simp; omega), fC⟩, fe4.2.2⟩
                have kB5 := kB4.grown gC kB4.size (fun j hj => by cases hj; omega)
                have kS5 := Nat.le_trans kS4 gC.size
                refine ⟨fun h => (by cases h), ?_⟩
                try simp only [Act.put, List.getElem_toArray, List.getElem_cons_zero, List.getElem_cons_succ, List.setIfInBounds_toArray, List.set_cons_zero, List.set_cons_succ]
                refine wpAnyG_all (rs := [21]) (by kernel_rfl) (by simp) ?_
                intro i hi
                simp only [List.mem_cons, List.not_mem_nil, or_false] at hi
                subst hi
                refine wpOp_open rfl (by rfl) ?_
                go_simp
                refine ⟨fun h => (by cases h), ?_⟩
                try simp only [Act.put, List.getElem_toArray, List.getElem_cons_zero, List.getElem_cons_succ, List.setIfInBounds_toArray, List.set_cons_zero, List.set_cons_succ]
                refine wpAnyG_all (rs := [22]) (by kernel_rfl) (by simp) ?_
                intro i hi
                simp only [List.mem_cons, List.not_mem_nil, or_false] at hi
                subst hi
                refine wpOp_open rfl (by rfl) ?_
                go_simp
                refine ⟨fun h => (by cases h), ?_⟩
                try simp only [Act.put, List.getElem_toArray, List.getElem_cons_zero, List.getElem_cons_succ, List.setIfInBounds_toArray, List.set_cons_zero, List.set_cons_succ]
                refine wpAnyG_all (rs := [23]) (by kernel_rfl) (by simp) ?_
                intro i hi
                simp only [List.mem_cons, List.not_mem_nil, or_false] at hi
                subst hi
                refine wpOp_now rfl rfl ?_
                go_simp
                refine ⟨fun h => (by cases h), ?_⟩
                try simp only [Act.put, List.getElem_toArray, List.getElem_cons_zero, List.getElem_cons_succ, List.setIfInBounds_toArray, List.set_cons_zero, List.set_cons_succ]
                refine wpAnyG_done (by kernel_rfl) ?_ _
                clear fe2 fe3 fe4 rA' rB' hc fz dF dG hfe
                go_wp2
                go_roundw
                case rel => exact ⟨2, _, _, _, _, by go_num, by omega, fe5, ⟨hx0, Nat.zero_le _⟩, kS5, kB5⟩
                case measure => simp [intOf]
              · have g5 : ByteArray.empty.toList.isEmpty = true := by kernel_rfl
                go_wp2_with (first | (go_at_call 60; refine (put_nil _ _).mono ?_; rintro e w9 ⟨rfl, rfl⟩) | (go_at_call 58; refine (end_nil _).mono ?_; rintro e w9 ⟨rfl, rfl⟩) | (go_at_call 63; refine (held_nil _).mono ?_; rintro e w9 ⟨rfl, rfl⟩) | (go_at_call 15; refine (wakes_any _).mono ?_; rintro e w9 ⟨rfl, hb9⟩))
                go_ret
                exact ⟨rfl, hB.trans (hb9.mono hB.size)⟩
end Go.Proofs.Ytgpnheaefagfiaa
