/- What Seam and Wants answer: the program's and the document's. -/
import Derived.Test.YtgpnheaefagfiaaJm
import Derived.Test.YtgpnheaefagfiaaArW
import Derived.Test.YtgpnheaefagfiaaOf
import Derived.Test.YtgpnheaefagfiaaBlk
import Derived.Deep.QuietTactic
import Derived.BigQuiet
namespace Go.Proofs.Ytgpnheaefagfiaa
set_option linter.unusedVariables false
set_option linter.unusedSimpArgs false
open Go Go.RowKit
set_option maxRecDepth 100000

theorem bt_app1 (a b : ByteArray) (j : Nat) (h : j < a.size) : bt (a ++ b) j = bt a j := by
  rw [← bt_get (a ++ b) j (by rw [ByteArray.size_append]; omega), ← bt_get a j h, ByteArray.getElem_append_left h]
theorem bt_app2 (a b : ByteArray) (j : Nat) (h1 : a.size ≤ j) (h : j < a.size + b.size) : bt (a ++ b) j = bt b (j - a.size) := by
  rw [← bt_get (a ++ b) j (by rw [ByteArray.size_append]; omega), ← bt_get b (j - a.size) (by omega), ByteArray.getElem_append_right h1]
theorem bt_ext (s : ByteArray) (i n k : Nat) (hn : n ≤ s.size) (hk : i + k < n) : bt (s.extract i n) k = bt s (i + k) := by
  have h1 : k < (s.extract i n).size := by rw [ByteArray.size_extract]; omega
  rw [← bt_get _ k h1, ← bt_get s (i + k) (by omega), ByteArray.getElem_extract]

/-- The span of the seam, or none. -/
def SmV (a b : ByteArray) (v : Value) : Prop :=
  (∃ p, Over (a ++ b) a.size p ∧ v = .tuple #[.agg #[.int .i64 p, .int .i64 ((p + wd (a ++ b) p : Nat) : Int)], .bool true]) ∨ ((∀ p, ¬ Over (a ++ b) a.size p) ∧ v = .tuple #[.agg #[.int .i64 0, .int .i64 0], .bool false])
theorem smV_one {a b : ByteArray} {v u : Value} (h : SmV a b v) (k : SmV a b u) : v = u := by
  rcases h with ⟨p, hp, rfl⟩ | ⟨hn, rfl⟩
  · rcases k with ⟨q, hq, rfl⟩ | ⟨hn, rfl⟩
    · rw [over_one hp hq]
    · exact absurd hp (hn p)
  · rcases k with ⟨q, hq, rfl⟩ | ⟨_, rfl⟩
    · exact absurd hq (hn q)
    · rfl

set_option maxHeartbeats 2000000 in
theorem seam_any (a b : ByteArray) (ha : a.size ≤ 1048576) (hb : b.size ≤ 1048576) (w : World) :
    Calls Try.prog 53 #[.string a, .string b] w fun e w' => ∃ v, SmV a b v ∧ e = .returned v ∧ Below w.heap.size w w' := by
  obtain ⟨tl, htl⟩ : ∃ tl, min 3 a.size = tl := ⟨_, rfl⟩
  obtain ⟨far, hfar⟩ : ∃ far, a.size - tl = far := ⟨_, rfl⟩
  obtain ⟨hd, hhd⟩ : ∃ hd, min 3 b.size = hd := ⟨_, rfl⟩
  have hT1 : (a.extract far a.size).size = tl := by rw [ByteArray.size_extract]; omega
  have hT2 : (b.extract 0 hd).size = hd := by rw [ByteArray.size_extract]; omega
  obtain ⟨T, hT⟩ : ∃ T, a.extract far a.size ++ b.extract 0 hd = T := ⟨_, rfl⟩
  have hTs : T.size = tl + hd := by rw [← hT, ByteArray.size_append, hT1, hT2]
  have cA := around_any T tl (by omega) (by omega)
  have hwin : ∀ F G, InB T tl F G → (F = G ∧ ∀ p, ¬ Over (a ++ b) a.size p) ∨ (F < G ∧ Over (a ++ b) a.size (F + far) ∧ wd (a ++ b) (F + far) = G - F) := by
    intro F G h
    refine seam_win (a ++ b) T a.size tl far (by rw [ByteArray.size_append]; omega) (by omega) (by omega) (by omega) (by omega) (by rw [ByteArray.size_append]; omega) (by rw [ByteArray.size_append]; omega) (fun j hj => ?_) F G h
    rw [← hT]
    by_cases hjt : j < tl
    · rw [bt_app1 _ _ j (by omega), bt_ext a far a.size j (Nat.le_refl _) (by omega), bt_app1 a b (j + far) (by omega), Nat.add_comm]
    · rw [bt_app2 _ _ j (by omega) (by omega), hT1, bt_ext b 0 hd (j - tl) (by omega) (by omega), bt_app2 a b (j + far) (by omega) (by omega), show j + far - a.size = 0 + (j - tl) by omega]
  have hle : ∀ F G, InB T tl F G → F ≤ tl ∧ tl ≤ G ∧ G ≤ T.size := fun F G h => inB_le T tl F G (by omega) h
  have HW := Lib.hid hwin
  have HL := Lib.hid hle
  clear hwin hle
  have hcaseA : (¬ (3 : Int) ≤ (a.size : Int) ∧ far = 0 ∧ tl = a.size) ∨ ((3 : Int) ≤ (a.size : Int) ∧ far + 3 = a.size ∧ tl = 3) := by omega
  have hcaseB : (¬ (3 : Int) ≤ (b.size : Int) ∧ hd = b.size) ∨ ((3 : Int) ≤ (b.size : Int) ∧ hd = 3) := by omega
  have HT := Lib.hid hT
  have HZ := Lib.hid hTs
  rcases hcaseA with ⟨h1, h2, h3⟩ | ⟨h1, h2, h3⟩
  · rcases hcaseB with ⟨g1, g2⟩ | ⟨g1, g2⟩
    · subst h2 h3 g2
      have f1 : IntKind.i64.wrap ((a.size : Int) - 3) = (a.size : Int) - 3 := IntWalk.i64_in _ (by omega)
      have f2 : (a.size : Int) - 3 < 0 := by omega
      clear hT hTs hT1 hT2 htl hfar hhd
      go_enter Try.func53, Try.ntmps53
      go_wp2
      go_quiet (fail)
      have e1 : a ++ b = T := by have := HT.out; simpa using this
      have cA2 : ∀ w, Calls Try.prog 74 #[.string (a ++ b), .int .i64 (a.size : Nat)] w (ArPost T a.size w) := fun w => by rw [e1]; exact cA w
      clear e1 cA
      go_wp2_with (go_at_call 74; refine (cA2 _).mono ?_; rintro e w2 ⟨F, G, hin, rfl, hb2⟩; have hw := HW.out F G hin; have hl := HL.out F G hin; obtain ⟨hc2, hf2⟩ := bcell hb2; have hz2 := hb2.size; have hlt2 : w.heap.size < w2.heap.size := Nat.lt_of_lt_of_le (by simp) hz2; have hgb : (G : Int) + (0 : Int) ≤ 4194304 := (by have := HZ.out; omega); have hbase : Below w.heap.size w w2 := (below_drewN ((Below.refl _ _).alloc (Nat.le_refl _) _) _).trans (hb2.mono (by simp)); clear hin)
      · have hfg : F = G := by
          have h : ((F : Int) == (G : Int)) = true := by assumption
          have := beq_iff_eq.1 h; omega
        refine bodyPost_ret (v := .tuple #[.agg #[.int .i64 0, .int .i64 0], .bool false]) (by simp [results, Try.f53, go_sem, hc2, hz2, hlt2]) rfl ⟨_, .inr ⟨?_, rfl⟩, rfl, ?_⟩
        · rcases hw with ⟨_, h⟩ | ⟨h, _⟩
          · exact h
          · omega
        · go_grown
      · have hfg : F ≠ G := by
          have h : ((F : Int) == (G : Int)) = false := by assumption
          rw [beq_eq_false_iff_ne] at h; omega
        refine bodyPost_ret (v := .tuple #[.agg #[.int .i64 (F : Int), .int .i64 (G : Int)], .bool true]) (by simp [results, Try.f53, go_sem, hc2, hz2, hlt2]) rfl ⟨_, .inl ?_, rfl, ?_⟩
        · rcases hw with ⟨h, _⟩ | ⟨h, hO, hwd⟩
          · exact absurd h hfg
          · refine ⟨F + 0, hO, ?_⟩
            rw [hwd, show ((F + 0 : Nat) : Int) = (F : Int) by omega, show ((F + 0 + (G - F) : Nat) : Int) = (G : Int) by omega]
        · go_grown
    · subst h2 h3 g2
      have f1 : IntKind.i64.wrap ((a.size : Int) - 3) = (a.size : Int) - 3 := IntWalk.i64_in _ (by omega)
      have f2 : (a.size : Int) - 3 < 0 := by omega
      clear hT hTs hT1 hT2 htl hfar hhd
      go_enter Try.func53, Try.ntmps53
      go_wp2
      go_quiet (fail)
      have e1 : a ++ b.extract 0 3 = T := by have := HT.out; simpa using this
      have e3 : (b.extract 0 3).size ≤ 3 := by rw [ByteArray.size_extract]; omega
      obtain ⟨X2, hX2⟩ : ∃ X, b.extract 0 3 = X := ⟨_, rfl⟩
      rw [hX2] at e1 e3 ⊢
      have cA2 : ∀ w, Calls Try.prog 74 #[.string (a ++ X2), .int .i64 (a.size : Nat)] w (ArPost T a.size w) := fun w => by rw [e1]; exact cA w
      clear e1 cA
      go_wp2_with (go_at_call 74; refine (cA2 _).mono ?_; rintro e w2 ⟨F, G, hin, rfl, hb2⟩; have hw := HW.out F G hin; have hl := HL.out F G hin; obtain ⟨hc2, hf2⟩ := bcell hb2; have hz2 := hb2.size; have hlt2 : w.heap.size < w2.heap.size := Nat.lt_of_lt_of_le (by simp) hz2; have hgb : (G : Int) + (0 : Int) ≤ 4194304 := (by have := HZ.out; omega); have hbase : Below w.heap.size w w2 := (below_drewN ((Below.refl _ _).alloc (Nat.le_refl _) _) _).trans (hb2.mono (by simp)); clear hin)
      · have hfg : F = G := by
          have h : ((F : Int) == (G : Int)) = true := by assumption
          have := beq_iff_eq.1 h; omega
        refine bodyPost_ret (v := .tuple #[.agg #[.int .i64 0, .int .i64 0], .bool false]) (by simp [results, Try.f53, go_sem, hc2, hz2, hlt2]) rfl ⟨_, .inr ⟨?_, rfl⟩, rfl, ?_⟩
        · rcases hw with ⟨_, h⟩ | ⟨h, _⟩
          · exact h
          · omega
        · go_grown
      · have hfg : F ≠ G := by
          have h : ((F : Int) == (G : Int)) = false := by assumption
          rw [beq_eq_false_iff_ne] at h; omega
        refine bodyPost_ret (v := .tuple #[.agg #[.int .i64 (F : Int), .int .i64 (G : Int)], .bool true]) (by simp [results, Try.f53, go_sem, hc2, hz2, hlt2]) rfl ⟨_, .inl ?_, rfl, ?_⟩
        · rcases hw with ⟨h, _⟩ | ⟨h, hO, hwd⟩
          · exact absurd h hfg
          · refine ⟨F + 0, hO, ?_⟩
            rw [hwd, show ((F + 0 : Nat) : Int) = (F : Int) by omega, show ((F + 0 + (G - F) : Nat) : Int) = (G : Int) by omega]
        · go_grown
  · rcases hcaseB with ⟨g1, g2⟩ | ⟨g1, g2⟩
    · subst h3 g2
      have hx : (a.size : Int) - 3 = (far : Int) := by omega
      have f1 : IntKind.i64.wrap (far : Int) = (far : Int) := IntWalk.i64_in _ (by omega)
      have f2 : (0 : Int) ≤ (far : Int) := by omega
      have f3 : (far : Int) ≤ (a.size : Int) := by omega
      have hif : (if 0 < far then (far : Int) else 0) = (far : Int) := by split <;> omega
      clear hT hTs hT1 hT2 htl hfar hhd
      go_enter Try.func53, Try.ntmps53
      go_wp2
      go_quiet (fail)
      have e1 : a.extract far a.size ++ b = T := by have := HT.out; simpa using this
      have e2 : (a.extract far a.size).size = 3 := by rw [ByteArray.size_extract]; omega
      obtain ⟨X1, hX1⟩ : ∃ X, a.extract far a.size = X := ⟨_, rfl⟩
      rw [hX1] at e1 e2 ⊢
      have cA2 : ∀ w, Calls Try.prog 74 #[.string (X1 ++ b), .int .i64 3] w (ArPost T 3 w) := fun w => by rw [e1]; exact cA w
      have hfa : (a.size : Int) - 3 = (far : Int) := by omega
      clear e1 cA
      go_wp2_with (go_at_call 74; refine (cA2 _).mono ?_; rintro e w2 ⟨F, G, hin, rfl, hb2⟩; have hw := HW.out F G hin; have hl := HL.out F G hin; obtain ⟨hc2, hf2⟩ := bcell hb2; have hz2 := hb2.size; have hlt2 : w.heap.size < w2.heap.size := Nat.lt_of_lt_of_le (by simp) hz2; have hgb : (G : Int) + (far : Int) ≤ 4194304 := (by have := HZ.out; omega); have hbase : Below w.heap.size w w2 := (below_drewN ((Below.refl _ _).alloc (Nat.le_refl _) _) _).trans (hb2.mono (by simp)); clear hin)
      · have hfg : F = G := by
          have h : ((F : Int) == (G : Int)) = true := by assumption
          have := beq_iff_eq.1 h; omega
        refine bodyPost_ret (v := .tuple #[.agg #[.int .i64 0, .int .i64 0], .bool false]) (by simp [results, Try.f53, go_sem, hc2, hz2, hlt2]) rfl ⟨_, .inr ⟨?_, rfl⟩, rfl, ?_⟩
        · rcases hw with ⟨_, h⟩ | ⟨h, _⟩
          · exact h
          · omega
        · go_grown
      · have hfg : F ≠ G := by
          have h : ((F : Int) == (G : Int)) = false := by assumption
          rw [beq_eq_false_iff_ne] at h; omega
        refine bodyPost_ret (v := .tuple #[.agg #[.int .i64 ((F : Int) + (far : Int)), .int .i64 ((G : Int) + (far : Int))], .bool true]) (by simp [results, Try.f53, go_sem, hc2, hz2, hlt2]) rfl ⟨_, .inl ?_, rfl, ?_⟩
        · rcases hw with ⟨h, _⟩ | ⟨h, hO, hwd⟩
          · exact absurd h hfg
          · refine ⟨F + far, hO, ?_⟩
            rw [hwd, show ((F + far : Nat) : Int) = (F : Int) + (far : Int) by omega, show ((F + far + (G - F) : Nat) : Int) = (G : Int) + (far : Int) by omega]
        · go_grown
    · subst h3 g2
      have hx : (a.size : Int) - 3 = (far : Int) := by omega
      have f1 : IntKind.i64.wrap (far : Int) = (far : Int) := IntWalk.i64_in _ (by omega)
      have f2 : (0 : Int) ≤ (far : Int) := by omega
      have f3 : (far : Int) ≤ (a.size : Int) := by omega
      have hif : (if 0 < far then (far : Int) else 0) = (far : Int) := by split <;> omega
      clear hT hTs hT1 hT2 htl hfar hhd
      go_enter Try.func53, Try.ntmps53
      go_wp2
      go_quiet (fail)
      have e1 : a.extract far a.size ++ b.extract 0 3 = T := by have := HT.out; simpa using this
      have e2 : (a.extract far a.size).size = 3 := by rw [ByteArray.size_extract]; omega
      obtain ⟨X1, hX1⟩ : ∃ X, a.extract far a.size = X := ⟨_, rfl⟩
      rw [hX1] at e1 e2 ⊢
      have e3 : (b.extract 0 3).size ≤ 3 := by rw [ByteArray.size_extract]; omega
      obtain ⟨X2, hX2⟩ : ∃ X, b.extract 0 3 = X := ⟨_, rfl⟩
      rw [hX2] at e1 e3 ⊢
      have cA2 : ∀ w, Calls Try.prog 74 #[.string (X1 ++ X2), .int .i64 3] w (ArPost T 3 w) := fun w => by rw [e1]; exact cA w
      have hfa : (a.size : Int) - 3 = (far : Int) := by omega
      clear e1 cA
      go_wp2_with (go_at_call 74; refine (cA2 _).mono ?_; rintro e w2 ⟨F, G, hin, rfl, hb2⟩; have hw := HW.out F G hin; have hl := HL.out F G hin; obtain ⟨hc2, hf2⟩ := bcell hb2; have hz2 := hb2.size; have hlt2 : w.heap.size < w2.heap.size := Nat.lt_of_lt_of_le (by simp) hz2; have hgb : (G : Int) + (far : Int) ≤ 4194304 := (by have := HZ.out; omega); have hbase : Below w.heap.size w w2 := (below_drewN ((Below.refl _ _).alloc (Nat.le_refl _) _) _).trans (hb2.mono (by simp)); clear hin)
      · have hfg : F = G := by
          have h : ((F : Int) == (G : Int)) = true := by assumption
          have := beq_iff_eq.1 h; omega
        refine bodyPost_ret (v := .tuple #[.agg #[.int .i64 0, .int .i64 0], .bool false]) (by simp [results, Try.f53, go_sem, hc2, hz2, hlt2]) rfl ⟨_, .inr ⟨?_, rfl⟩, rfl, ?_⟩
        · rcases hw with ⟨_, h⟩ | ⟨h, _⟩
          · exact h
          · omega
        · go_grown
      · have hfg : F ≠ G := by
          have h : ((F : Int) == (G : Int)) = false := by assumption
          rw [beq_eq_false_iff_ne] at h; omega
        refine bodyPost_ret (v := .tuple #[.agg #[.int .i64 ((F : Int) + (far : Int)), .int .i64 ((G : Int) + (far : Int))], .bool true]) (by simp [results, Try.f53, go_sem, hc2, hz2, hlt2]) rfl ⟨_, .inl ?_, rfl, ?_⟩
        · rcases hw with ⟨h, _⟩ | ⟨h, hO, hwd⟩
          · exact absurd h hfg
          · refine ⟨F + far, hO, ?_⟩
            rw [hwd, show ((F + far : Nat) : Int) = (F : Int) + (far : Int) by omega, show ((F + far + (G - F) : Nat) : Int) = (G : Int) + (far : Int) by omega]
        · go_grown
end Go.Proofs.Ytgpnheaefagfiaa
