/- What the document's Wants answers; RunesJoins: the law's call, at every two texts. -/
import Derived.Test.YtgpnheaefagfiaaLk
import Derived.Test.YtgpnheaefagfiaaWk
namespace Go.Proofs.Ytgpnheaefagfiaa
set_option linter.unusedVariables false
set_option linter.unusedSimpArgs false
open Go Go.RowKit
set_option maxRecDepth 100000

theorem fitFrom_win (S T : ByteArray) (i i' n : Nat) (h : ∀ j, j < n → bt T (i + j) = bt S (i' + j)) (h0 : bt T i = bt S i') : ∀ f k, fitFrom T i n f k = fitFrom S i' n f k := by
  intro f
  induction f with
  | zero => intro k; rfl
  | succ f ih =>
    intro k
    simp only [fitFrom]
    by_cases hk : k < n
    · rw [if_pos hk, if_pos hk, h k hk, h0, ih]
    · rw [if_neg hk, if_neg hk]
/-- What lacks answers of the last n bytes. -/
theorem lackN_last (s : ByteArray) (n q : Nat) (hn : 1 ≤ n) (hs : n ≤ s.size) (hq : s.size - n = q) : lackN (s.extract q s.size) = if opB s n then whN (bt s q) - n else 0 := by
  have hz : (s.extract q s.size).size = n := by rw [ByteArray.size_extract]; omega
  have hb : ∀ j, j < n → bt (s.extract q s.size) j = bt s (q + j) := fun j hj => bt_ext s q s.size j (Nat.le_refl _) (by omega)
  have hb0 := hb 0 (by omega)
  rw [Nat.add_zero] at hb0
  have hop : opB s n ↔ (n < whN (bt s q) ∧ fitN s q = n) := by unfold opB; rw [hq]
  unfold lackN
  rw [hz, hb0]
  by_cases hw : n < whN (bt s q)
  · have hf : fitN (s.extract q s.size) 0 = fitN s q := by
      unfold fitN
      rw [hb0, hz, show min (whN (bt s q)) (n - 0) = n by omega, show min (whN (bt s q)) (s.size - q) = n by omega]
      exact fitFrom_win s (s.extract q s.size) 0 q n (fun j hj => by rw [Nat.zero_add]; exact hb j hj) hb0 4 1
    rw [hf]
    by_cases ho : opB s n
    · rw [if_pos ho, if_pos (hop.1 ho)]
    · rw [if_neg ho, if_neg (fun h => ho (hop.2 h))]
  · rw [if_neg (fun h => hw h.1), if_neg (fun h => hw (hop.1 h).1)]

def WaRel (s : ByteArray) (w : World) (v : Value) (wr : World) : Prop := ∃ n : Nat, v = .int .i64 n ∧ 1 ≤ n ∧ n ≤ 4 ∧ opNo s n ∧ Below w.heap.size w wr

set_option maxHeartbeats 1000000 in
theorem wantsR_any (s : ByteArray) (hs : s.size ≤ 281474976710656) (w : World) :
    Calls Try.prog 56 #[.string s] w fun e w' => e = .returned (.int .i64 (waN s : Nat)) ∧ Below w.heap.size w w' := by
  obtain ⟨V, hV⟩ : ∃ V, waN s = V := ⟨_, rfl⟩
  have HV := Lib.hid hV
  rw [hV]
  clear hV
  go_enter Try.func56, Try.ntmps56
  go_wp2
  go_loopw [3] (fun v wr => WaRel s w v wr) (fun v _ => 5 - (intOf v).toNat)
  case atStart => exact ⟨1, rfl, by omega, by omega, fun m h1 h2 => by omega, Below.refl _ _⟩
  case round =>
    obtain ⟨n, rfl, hn1, hn4, hno, hB⟩ := hrel
    have HO := Lib.hid hno; clear hno
    by_cases hlt : n ≤ 3 ∧ n ≤ s.size
    · obtain ⟨hn3, hns⟩ := hlt
      obtain ⟨q, hq⟩ : ∃ q, s.size - n = q := ⟨_, rfl⟩
      have hqi : (s.size : Int) - (n : Int) = (q : Int) := by omega
      have hqs : q < s.size := by omega
      have hqs' : (q : Int) ≤ (s.size : Int) := by omega
      have hns' : (n : Int) ≤ (s.size : Int) := by omega
      have hn3' : (n : Int) ≤ 3 := by omega
      have hll := lackN_last s n q hn1 hns hq
      obtain ⟨X, hX⟩ : ∃ X, s.extract q s.size = X := ⟨_, rfl⟩
      have hXs : X.size = n := by rw [← hX, ByteArray.size_extract]; omega
      have cL := lacks_any X (by omega) (by omega)
      rw [hX] at hll
      by_cases hop : opB s n
      · have hyes : opN s = n := opN_yes hn1 hn3 hns HO.out hop
        rw [if_pos hop] at hll
        have hv : waN s = whN (bt s q) - n := by unfold waN; rw [hyes, if_neg (by omega), hq]
        rw [HV.out] at hv
        have hpos : 0 < V := by rw [hv]; have := hop.1; rw [hq] at this; omega
        rw [hll, ← hv] at cL
        have hpi : (0 : Int) < (V : Int) := by omega
        clear hll hop hyes hv hq hXs
        go_wp2_with (first | (go_at_call 84; refine (cL _).mono ?_; rintro e w1 ⟨rfl, hb1⟩))
        go_ret
        exact ⟨rfl, hB.trans (hb1.mono hB.size)⟩
      · rw [if_neg hop] at hll
        rw [hll] at cL
        have HX := Lib.hid hop
        clear hll hop hq hXs
        go_wp2_with (first | (go_at_call 84; refine (cL _).mono ?_; rintro e w1 ⟨rfl, hb1⟩))
        go_roundw
        case rel =>
          refine ⟨n + 1, by go_num, by omega, by omega, fun m h1 h2 h3 => ?_, hB.trans (hb1.mono hB.size)⟩
          by_cases e : m = n
          · rw [e]; exact HX.out
          · exact HO.out m h1 (by omega) h3
        case measure => simp [intOf]; omega
    · have hz : opN s = 0 := opN_no (fun m h1 h2 h3 => HO.out m h1 (by omega) h3)
      have hv : waN s = 0 := by unfold waN; rw [if_pos hz]
      rw [HV.out] at hv
      subst hv
      clear hz
      by_cases h3 : n ≤ 3
      · have h4 : ¬ (n : Int) ≤ (s.size : Int) := by omega
        go_wp2
        go_ret
        exact ⟨rfl, hB⟩
      · go_wp2
        go_ret
        exact ⟨rfl, hB⟩
end Go.Proofs.Ytgpnheaefagfiaa
