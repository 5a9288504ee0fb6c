/- A Feed of the document's: Begun, tell, Put, End, Held. -/
import Derived.Test.YtgpnheaefagfiaaFd0
import Derived.Test.YtgpnheaefagfiaaMd
import Derived.Test.YtgpnheaefagfiaaBlk
import Derived.Test.YtgpnheaefagfiaaRefB
import Derived.Deep.Onto
namespace Go.Proofs.Ytgpnheaefagfiaa
set_option linter.unusedVariables false
set_option linter.unusedSimpArgs false
open Go Go.RowKit
set_option maxRecDepth 100000

set_option maxHeartbeats 1000000 in
theorem begun_any (s : ByteArray) (hs : s.size ≤ 281474976710656) (q : Nat) (hqq : s.size - opN s = q) (w : World) :
    Calls Try.prog 87 #[.string s] w fun e w' => e = .returned (.string (s.extract q s.size)) ∧ Below w.heap.size w w' := by
  obtain ⟨V, hV⟩ : ∃ V, s.extract q s.size = V := ⟨_, rfl⟩
  have HV := Lib.hid hV
  have HQ := Lib.hid hqq
  rw [hV]
  clear hV hqq
  go_enter Try.func87, Try.ntmps87
  go_wp2
  go_loopw [3] (fun v wr => WaRel s w v wr) (fun v _ => 5 - (intOf v).toNat)
  case atStart => exact ⟨1, rfl, by omega, by omega, fun m h1 h2 => by omega, Below.refl _ _⟩
  case round =>
    obtain ⟨n, rfl, hn1, hn4, hno, hB⟩ := hrel
    have HO := Lib.hid hno; clear hno
    by_cases hlt : n ≤ 3 ∧ n ≤ s.size
    · obtain ⟨hn3, hns⟩ := hlt
      obtain ⟨p, hp⟩ : ∃ p, s.size - n = p := ⟨_, rfl⟩
      have hqi : (s.size : Int) - (n : Int) = (p : Int) := by omega
      have hqs : p < s.size := by omega
      have hqs' : (p : Int) ≤ (s.size : Int) := by omega
      have hns' : (n : Int) ≤ (s.size : Int) := by omega
      have hn3' : (n : Int) ≤ 3 := by omega
      have hll := lackN_last s n p hn1 hns hp
      obtain ⟨X, hX⟩ : ∃ X, s.extract p s.size = X := ⟨_, rfl⟩
      have hXs : X.size = n := by rw [← hX, ByteArray.size_extract]; omega
      have cL := lacks_any X (by omega) (by omega)
      rw [hX] at hll
      by_cases hop : opB s n
      · have hyes : opN s = n := opN_yes hn1 hn3 hns HO.out hop
        rw [if_pos hop] at hll
        have hv : V = X := by rw [← HV.out, ← HQ.out, hyes, hp, hX]
        obtain ⟨L, hL⟩ : ∃ L, lackN X = L := ⟨_, rfl⟩
        have hpos : 0 < L := by rw [← hL, hll]; have := hop.1; rw [hp] at this; omega
        rw [hL] at cL
        have hpi : (0 : Int) < (L : Int) := by omega
        have HVX := Lib.hid hv
        clear hll hop hyes hv hp hXs hL
        go_wp2_with (first | (go_at_call 84; refine (cL _).mono ?_; rintro e w1 ⟨rfl, hb1⟩))
        go_ret
        exact ⟨by rw [HVX.out]; rfl, hB.trans (hb1.mono hB.size)⟩
      · rw [if_neg hop] at hll
        rw [hll] at cL
        have HX := Lib.hid hop
        clear hll hop hp hXs
        go_wp2_with (first | (go_at_call 84; refine (cL _).mono ?_; rintro e w1 ⟨rfl, hb1⟩))
        go_roundw
        case rel =>
          refine ⟨n + 1, by go_num, by omega, by omega, fun m h1 h2 h3 => ?_, hB.trans (hb1.mono hB.size)⟩
          by_cases e : m = n
          · rw [e]; exact HX.out
          · exact HO.out m h1 (by omega) h3
        case measure => simp [intOf]; omega
    · have hz : opN s = 0 := opN_no (fun m h1 h2 h3 => HO.out m h1 (by omega) h3)
      have hv : V = ByteArray.empty := by
        rw [← HV.out, ← HQ.out, hz]
        apply ByteArray.ext
        simp
      subst hv
      clear hz
      by_cases h3 : n ≤ 3
      · have h4 : ¬ (n : Int) ≤ (s.size : Int) := by omega
        go_wp2
        go_ret
        exact ⟨rfl, hB⟩
      · go_wp2
        go_ret
        exact ⟨rfl, hB⟩

/-- What was told of the first pieces. -/
def telT (a b : Nat) (l : List Nat) : List Nat := l.filter fun p => decide (a ≤ p ∧ p < b)
theorem telT_yes {a b p : Nat} (l : List Nat) (h : a ≤ p ∧ p < b) : telT a b (l ++ [p]) = telT a b l ++ [p] := by simp [telT, h]
theorem telT_no {a b p : Nat} (l : List Nat) (h : ¬ (a ≤ p ∧ p < b)) : telT a b (l ++ [p]) = telT a b l := by
  simp only [telT, List.filter_append, List.filter_cons, List.filter_nil, decide_eq_false h]; simp
theorem telT_len (a b : Nat) (l : List Nat) : (telT a b l).length ≤ l.length := List.length_filter_le _ _

def TrKp (X : ByteArray) (a b : Nat) (w : World) (S1 : Nat) (pv : Value) (k : Nat) (v : Value) (Y : World) : Prop :=
  (Y.ownsRow w.heap.size 24 4 pv (posns X).length (pcs X (posns X)) ∧ Y.ownsRow S1 24 4 v (telT a b ((posns X).take k)).length (pcs X (telT a b ((posns X).take k)))) ∧ S1 ≤ Y.heap.size ∧ Below w.heap.size w Y
def TrRel (X : ByteArray) (a b : Nat) (w : World) (S1 : Nat) (pv : Value) (v i : Value) (wr : World) : Prop :=
  ∃ k : Nat, i = .int .i64 k ∧ k ≤ (posns X).length ∧ TrKp X a b w S1 pv k v wr

/-- The cells of two Feeds of the document's. -/
def rfC (X0 : ByteArray) (a0 : Nat) (X1 : ByteArray) (a1 : Nat) : Array Value := #[.string X0, .int .i64 (a0 : Nat), .string X1, .int .i64 (a1 : Nat)]
def RtPost (X : ByteArray) (a b o : Nat) (w : World) (G : Nat) (cs : Array Value) (e : Ending) (w' : World) : Prop :=
  ∃ v, e = .returned v ∧ w'.ownsRow w.heap.size 24 4 v (tellL X a b).length (pcs X (tellL X a b)) ∧ w.grownBy w' (some G) ∧ Blk w' G (cs.setIfInBounds (o + 1) (.int .i64 (b : Nat))) 79

set_option maxHeartbeats 2000000 in
theorem tellR_any (X : ByteArray) (hX : X.size ≤ 1048576) (a b o : Nat) (ha : a ≤ X.size) (hb : b ≤ X.size) (w : World) (G : Nat) (cs : Array Value) (hG : Blk w G cs 79) (h0 : cs[o]? = some (.string X)) (h1 : cs[o + 1]? = some (.int .i64 (a : Nat))) :
    Calls Try.prog 86 #[.pointer (some ⟨G, o, none⟩), .int .i64 (b : Nat)] w (RtPost X a b o w G cs) := by
  obtain ⟨i0, hi, hz0, hz1, hz2⟩ := info_parts infoP
  have cP := piecesR_any X hX
  have hpl := posns_len X
  have g0 : w.cell? ⟨G, o, none⟩ = some (.string X) := (hG.cell o).trans h0
  have g1 : w.cell? ⟨G, o + 1, none⟩ = some (.int .i64 (a : Nat)) := (hG.cell (o + 1)).trans h1
  have gl := hG.lt
  go_enter Try.func86, Try.ntmps86
  go_wp2_with (first | (go_at_call 19; refine (cP _).mono ?_; rintro e w1 ⟨pv, rfl, hown, hb1⟩; obtain ⟨op, cap, rfl, ho⟩ := own_slice hown))
  obtain ⟨n, hn⟩ : ∃ n, (posns X).length = n := ⟨_, rfl⟩
  have HN := Lib.hid hn
  have hK : TrKp X a b w w1.heap.size (.slice op n cap) 0 (.slice none 0 0) w1 := ⟨⟨by rw [← hn]; exact hown, World.ownsRow_nil _ _ _ _⟩, Nat.le_refl _, hb1⟩
  have hgp : ∀ g, (Value.slice op n cap).ownBlock = some g → g < w1.heap.size := fun g e => by rw [← hn] at e; exact (hown.lt g e).2
  have s1 := hb1.size
  simp only [hn] at hpl ho ⊢
  obtain ⟨S1, hS1⟩ : ∃ y, w1.heap.size = y := ⟨_, rfl⟩
  simp only [hS1] at hK hgp s1
  clear hown hn hb1
  go_loopw [5, 14] (fun v i wr => TrRel X a b w S1 (.slice op n cap) v i wr) (fun _ i _ => n - (intOf i).toNat)
  case atStart => exact ⟨0, rfl, by omega, hK⟩
  case round =>
    clear hK
    obtain ⟨k, rfl, hk, hkp⟩ := hrel
    rw [HN.out] at hk
    have hB := hkp.2.2
    have hBk : Blk wr G cs 79 := hG.below hB gl
    have y1 : ∀ ob, (wr.alloc ob).cell? ⟨G, o + 1, none⟩ = some (.int .i64 (a : Nat)) := fun ob => ((hBk.alloc ob).cell (o + 1)).trans h1
    by_cases hlt : k < n
    · obtain ⟨g, rfl⟩ := ho (by omega)
      obtain ⟨p, hpk⟩ : ∃ p, (posns X)[k]? = some p := ⟨_, List.getElem?_eq_getElem (by rw [HN.out]; exact hlt)⟩
      have hrow := hkp.1.1
      rw [HN.out] at hrow
      obtain ⟨c0, c1, c2, c3⟩ := nth_cells hrow HN.out k hlt p hpk
      have hps := (posG_ge X 0 p (List.mem_of_getElem? hpk)).2
      have hs1 : k < (posns X).length := by rw [HN.out]; exact hlt
      have hsn : (posns X).take (k + 1) = (posns X).take k ++ [p] := by
        rw [List.take_succ_eq_append_getElem hs1]
        rw [List.getElem?_eq_getElem hs1] at hpk
        rw [Option.some.inj hpk]
      have hx4 := wd_le X p
      have HS := Lib.hid hsn
      have HP := Lib.hid hkp
      have htl := telT_len a b ((posns X).take k)
      rw [List.length_take] at htl
      obtain ⟨m, hm⟩ : ∃ m, (telT a b ((posns X).take k)).length = m := ⟨_, rfl⟩
      have hv := hkp.1.2
      rw [hm] at hv htl
      have HM := Lib.hid hm
      have hgg := hgp g rfl
      obtain ⟨ov, cv, rfl, _⟩ := own_slice hv
      have hsz1 := hkp.2.1
      clear hsn hpk hs1 hrow hkp hm g0 g1
      by_cases hap : a ≤ p
      · have i1 : (a : Int) ≤ (p : Int) := by omega
        by_cases hpb : p < b
        · have i2 : (p : Int) < (b : Int) := by omega
          go_wp2
          go_quiet (fail)
          obtain ⟨WA, hWA⟩ : ∃ y, (wr.alloc (.cells #[.int .i64 (p : Nat), .int .i64 (wd X p : Nat), .int .i32 (rn X p : Nat), .bool (bk X p)] 24)).drewN nq = y := ⟨_, rfl⟩
          have mb : Blk WA wr.heap.size #[.int .i64 (p : Nat), .int .i64 (wd X p : Nat), .int .i32 (rn X p : Nat), .bool (bk X p)] 24 := by rw [← hWA]; exact Blk.new wr _ _
          have mv : WA.ownsRow S1 24 4 (.slice ov m cv) m (pcs X (telT a b ((posns X).take k))) := by rw [← hWA]; exact hv.alloc _
          have mp : WA.ownsRow w.heap.size 24 4 (.slice (some ⟨g, 0, none⟩) n cap) (posns X).length (pcs X (posns X)) := by rw [← hWA]; exact HP.out.1.1.alloc _
          have mB : Below w.heap.size w WA := by rw [← hWA]; exact (hB.alloc hB.size _).trans ⟨rfl, rfl, rfl, Nat.le_refl _, fun _ _ => rfl⟩
          have ms : S1 ≤ WA.heap.size := by rw [← hWA]; show S1 ≤ (wr.alloc _).heap.size; simp; omega
          have m0 := mb.cell 0
          have m1 := mb.cell 1
          have m2 := mb.cell 2
          have m3 := mb.cell 3
          have mz : wr.heap.size < WA.heap.size := mb.lt
          rw [hWA]
          clear hWA
          go_wp2_with (first | (at_builtin; refine wpList_append_own _ rfl _ _ 29 rfl S1 24 i0 (.agg #[.int .i64 0, .int .i64 0, .int .i32 0, .bool false]) 4 24 Try.underlying29 hi hz0 hz1 hz2 rfl (by decide) _ _ _ rfl (mv.alloc _) ⟨WA.heap.size, 0, none⟩ 1 1 [.int .i64 (p : Nat), .int .i64 (wd X p : Nat), .int .i32 (rn X p : Nat), .bool (bk X p)] rfl rfl (World.news_of_block (cs := #[.int .i64 (p : Nat), .int .i64 (wd X p : Nat), .int .i32 (rn X p : Nat), .bool (bk X p)]) (t := 24) (fr := (0, 0)) (World.alloc_heap_new WA _)) (fun x hx => by simp at hx; rcases hx with rfl | rfl | rfl | rfl <;> rfl) (by unfold maxLen; omega) (by omega) (by simp; omega) ?_; intro v' w2 hown' hgrow _))
          go_roundw
          case rel =>
            have hne : ∀ e : (Value.slice (some ⟨g, 0, none⟩) n cap).ownBlock = (Value.slice ov m cv).ownBlock, False := fun e => by
              have := (mv.lt g e.symm).1
              omega
            refine ⟨k + 1, by go_num, by rw [HN.out]; omega, ⟨(mp.alloc _).kept hgrow (.inr (fun e => hne e)), ?_⟩, ?_, (mB.alloc mB.size _).grown hgrow (by have := mB.size; simp; omega) (fun j hj => by have := (mv.lt j hj).1; omega)⟩
            · rw [HS.out, telT_yes _ ⟨hap, hpb⟩, pcs_snoc, List.length_append, HM.out]
              exact hown'
            · have := hgrow.size; simp at this; omega
          case measure => simp [intOf]; omega
        · have i2 : ¬ (p : Int) < (b : Int) := by omega
          go_wp2
          go_quiet (fail)
          obtain ⟨WA, hWA⟩ : ∃ y, (wr.alloc (.cells #[.int .i64 (p : Nat), .int .i64 (wd X p : Nat), .int .i32 (rn X p : Nat), .bool (bk X p)] 24)).drewN nq = y := ⟨_, rfl⟩
          have mb : Blk WA wr.heap.size #[.int .i64 (p : Nat), .int .i64 (wd X p : Nat), .int .i32 (rn X p : Nat), .bool (bk X p)] 24 := by rw [← hWA]; exact Blk.new wr _ _
          have mv : WA.ownsRow S1 24 4 (.slice ov m cv) m (pcs X (telT a b ((posns X).take k))) := by rw [← hWA]; exact hv.alloc _
          have mp : WA.ownsRow w.heap.size 24 4 (.slice (some ⟨g, 0, none⟩) n cap) (posns X).length (pcs X (posns X)) := by rw [← hWA]; exact HP.out.1.1.alloc _
          have mB : Below w.heap.size w WA := by rw [← hWA]; exact (hB.alloc hB.size _).trans ⟨rfl, rfl, rfl, Nat.le_refl _, fun _ _ => rfl⟩
          have ms : S1 ≤ WA.heap.size := by rw [← hWA]; show S1 ≤ (wr.alloc _).heap.size; simp; omega
          have m0 := mb.cell 0
          have m1 := mb.cell 1
          have m2 := mb.cell 2
          have m3 := mb.cell 3
          have mz : wr.heap.size < WA.heap.size := mb.lt
          rw [hWA]
          clear hWA
          go_wp2
          go_roundw
          case rel =>
            refine ⟨k + 1, by go_num, by rw [HN.out]; omega, ⟨mp, ?_⟩, ms, mB⟩
            rw [HS.out, telT_no _ (by omega)]
            rw [HM.out]
            exact mv
          case measure => simp [intOf]; omega
      · have i1 : ¬ (a : Int) ≤ (p : Int) := by omega
        go_wp2
        go_quiet (fail)
        obtain ⟨WA, hWA⟩ : ∃ y, (wr.alloc (.cells #[.int .i64 (p : Nat), .int .i64 (wd X p : Nat), .int .i32 (rn X p : Nat), .bool (bk X p)] 24)).drewN nq = y := ⟨_, rfl⟩
        have mb : Blk WA wr.heap.size #[.int .i64 (p : Nat), .int .i64 (wd X p : Nat), .int .i32 (rn X p : Nat), .bool (bk X p)] 24 := by rw [← hWA]; exact Blk.new wr _ _
        have mv : WA.ownsRow S1 24 4 (.slice ov m cv) m (pcs X (telT a b ((posns X).take k))) := by rw [← hWA]; exact hv.alloc _
        have mp : WA.ownsRow w.heap.size 24 4 (.slice (some ⟨g, 0, none⟩) n cap) (posns X).length (pcs X (posns X)) := by rw [← hWA]; exact HP.out.1.1.alloc _
        have mB : Below w.heap.size w WA := by rw [← hWA]; exact (hB.alloc hB.size _).trans ⟨rfl, rfl, rfl, Nat.le_refl _, fun _ _ => rfl⟩
        have ms : S1 ≤ WA.heap.size := by rw [← hWA]; show S1 ≤ (wr.alloc _).heap.size; simp; omega
        have m0 := mb.cell 0
        have m1 := mb.cell 1
        have m2 := mb.cell 2
        have m3 := mb.cell 3
        have mz : wr.heap.size < WA.heap.size := mb.lt
        rw [hWA]
        clear hWA
        go_wp2
        go_roundw
        case rel =>
          refine ⟨k + 1, by go_num, by rw [HN.out]; omega, ⟨mp, ?_⟩, ms, mB⟩
          rw [HS.out, telT_no _ (by omega)]
          rw [HM.out]
          exact mv
        case measure => simp [intOf]; omega
    · have hkn : k = n := by omega
      subst hkn
      have hv := hkp.1.2
      have hs1 := hkp.2.1
      rw [List.take_of_length_le (by rw [HN.out]; omega)] at hv
      have y2 := hBk.frozen (o + 1)
      have y3 : wr.cell? ⟨G, o + 1, none⟩ = some (.int .i64 (a : Nat)) := (hBk.cell (o + 1)).trans h1
      clear hkp
      obtain ⟨ov, cv, rfl, _⟩ := own_slice hv
      go_wp2
      have z1 := hBk.set (o + 1) (.int .i64 (b : Nat))
      have hnr := hBk.not_row (by decide) hv
      have z2 := (hv.mono s1).kept (grownBy_setCell wr G (o + 1) (.int .i64 (b : Nat))) (.inr (fun e => hnr e.symm))
      have z3 := ((grown_none hB).but (some G)).trans (grownBy_setCell wr G (o + 1) (.int .i64 (b : Nat)))
      go_ret
      exact ⟨_, rfl, z2, z3, z1⟩
end Go.Proofs.Ytgpnheaefagfiaa
