/- ClusterPads: the law's call. -/
import Derived.Test.YtnbhdgbhmcbeoaaLcs
import Derived.Test.YtnbhdgbhmcbeoaaCpm
import Derived.Test.YtnbhdgbhmcbeoaaShl
namespace Go.Proofs.Ytnbhdgbhmcbeoaa
set_option linter.unusedVariables false
set_option linter.unusedSimpArgs false
open Go Go.RowKit Go.Shelf
set_option maxRecDepth 100000

theorem idx_pos (sub : List UInt8) : ∀ (s : List UInt8) (i : Nat), Lib.occAt s sub i = true → 0 ≤ Lib.index s sub
  | [], i, h => by
    unfold Lib.occAt at h
    rw [List.drop_nil] at h
    cases sub with
    | nil => decide
    | cons a t => simp at h
  | b :: l, i, h => by
    unfold Lib.index
    split
    · omega
    · rename_i hn
      cases i with
      | zero => exact absurd (by simpa [Lib.occAt] using h) hn
      | succ i =>
        have := idx_pos sub l i (by simpa [Lib.occAt] using h)
        rw [if_neg (by rw [beq_iff_eq]; omega)]
        omega
theorem idx_mid (a b c : ByteArray) : 0 ≤ Lib.index (a ++ b ++ c).data.toList b.data.toList := by
  refine idx_pos _ _ a.size ?_
  unfold Lib.occAt
  have e : (a ++ b ++ c).data.toList.drop a.size = b.data.toList ++ c.data.toList := by
    rw [ByteArray.data_append, ByteArray.data_append, Array.toList_append, Array.toList_append, List.append_assoc, show a.size = a.data.toList.length by rw [Array.length_toList]; rfl, List.drop_left]
  rw [e]
  exact List.isPrefixOf_iff_prefix.2 (List.prefix_append _ _)
theorem hpre_any (s p : ByteArray) (h : s.extract 0 p.size = p) (hle : p.size ≤ s.size) (hs : s.size ≤ 9223372036854775807) (w : World) :
    Calls Try.prog 34 #[.string s, .string p] w fun e w' => e = .returned (.bool true) ∧ w = w' := by
  have d1 : decide ((p.size : Int) ≤ (s.size : Int)) = true := decide_eq_true (by omega)
  have d2 : (p.size : Int) ≤ (s.size : Int) := by omega
  go_enter Try.func34, Try.ntmps34
  go_wp2
  go_ret
  exact ⟨rfl, rfl⟩
theorem hsuf_any (s p : ByteArray) (h : s.extract (s.size - p.size) s.size = p) (hle : p.size ≤ s.size) (hs : s.size ≤ 9223372036854775807) (w : World) :
    Calls Try.prog 35 #[.string s, .string p] w fun e w' => e = .returned (.bool true) ∧ w = w' := by
  have d1 : decide ((p.size : Int) ≤ (s.size : Int)) = true := decide_eq_true (by omega)
  have d2 : (p.size : Int) ≤ (s.size : Int) := by omega
  obtain ⟨n, hn⟩ : ∃ n, s.size - p.size = n := ⟨_, rfl⟩
  rw [hn] at h
  have d3 : IntKind.i64.wrap ((s.size : Int) - (p.size : Int)) = (n : Int) := by rw [IntWalk.i64_in _ (by omega)]; omega
  have d4 : n ≤ s.size := by omega
  clear hn
  go_enter Try.func35, Try.ntmps35
  go_wp2
  go_ret
  exact ⟨rfl, rfl⟩

/-- What is refused. -/
theorem lpd_no (s : ByteArray) (cz side k : Int) (hk : k = 2 ∨ k = 3) (hP : ∀ W : World, Calls Try.prog 17 #[.string s, .int .i64 cz, .int .i64 side] W fun e w' => e = .returned (.tuple #[.string ⟨#[]⟩, .int .i64 k]) ∧ W = w') (w : World) :
    Calls Try.prog 6 #[.string s, .int .i64 cz, .int .i64 side] w fun e w' => e = .returned (.bool true) ∧ Below w.heap.size w w' := by
  rcases hk with rfl | rfl
  all_goals
    go_enter Try.func6, Try.ntmps6
    go_wp2_with (fail)
    refine (works_any _).mono ?_
    rintro e w1 ⟨rfl, hb1⟩
    go_wp2_with (fail)
    refine (hP _).mono ?_
    rintro e w2 ⟨rfl, rfl⟩
    go_wp2_with (fail)
    refine (works_any _).mono ?_
    rintro e w2 ⟨rfl, hb2⟩
    have hB2 := hb1.trans (hb2.mono hb1.size)
    go_wp2
    go_ret
    exact ⟨rfl, hB2⟩

set_option maxHeartbeats 4000000 in
theorem lpd_ok (s : ByteArray) (hs : s.size ≤ 1048576) (cn : Nat) (hc : cn ≤ 65536) (side : Int) (hside : okSide side = true) (m : Int) (w : World) (hm : w.cell? ⟨0, 0, none⟩ = some (.int .i64 m)) :
    Calls Try.prog 6 #[.string s, .int .i64 (cn : Int), .int .i64 side] w fun e w' => e = .returned (.bool true) ∧ Below w.heap.size w w' := by
  obtain ⟨P0, hP0⟩ := cutOf_ex s cn
  have hcl := hP0.2.1
  have hend : endC P0 ≤ s.size := by obtain ⟨r, hr⟩ := hP0.1; exact endC_le s P0 r hr.symm
  have hhd := cellsL_head s P0 hP0.1
  have hz := size_head s (endC P0) hend
  obtain ⟨hd, ehd⟩ : ∃ l, s.extract 0 (endC P0) = l := ⟨_, rfl⟩
  obtain ⟨tl, etl⟩ : ∃ l, s.extract (endC P0) s.size = l := ⟨_, rfl⟩
  rw [ehd] at hhd hz
  obtain ⟨tk, etk⟩ : ∃ l, colsL P0 = l := ⟨_, rfl⟩
  rw [etk] at hcl
  have hpk := col_padded (aheadN side (cn - tk)) hd (cn - tk - aheadN side (cn - tk))
  rw [hhd, etk] at hpk
  have hal := aheadN_le side (cn - tk)
  have hps : padB s side cn P0 = blanksB (aheadN side (cn - tk)) ++ hd ++ blanksB (cn - tk - aheadN side (cn - tk)) := by
    unfold padB
    rw [etk, ehd]
  have hix := idx_mid (blanksB (aheadN side (cn - tk))) hd (blanksB (cn - tk - aheadN side (cn - tk)))
  have hsz : (padB s side cn P0).size = hd.size + (cn - tk) := by
    rw [hps, ByteArray.size_append, ByteArray.size_append, blanksB_size, blanksB_size]
    omega
  rw [← hps] at hpk hix
  have hpre : side = 1 → (padB s side cn P0).extract 0 hd.size = hd := by
    intro h
    rw [hps, h, show aheadN 1 (cn - tk) = 0 by unfold aheadN; rfl, show blanksB 0 ++ hd = hd by apply ByteArray.ext; simp [blanksB], app_ext_l]
  have hsuf : side = 2 → (padB s side cn P0).extract ((padB s side cn P0).size - hd.size) (padB s side cn P0).size = hd := by
    intro h
    have e : padB s side cn P0 = blanksB (cn - tk) ++ hd := by
      rw [hps, h, show aheadN 2 (cn - tk) = cn - tk by unfold aheadN; rfl, Nat.sub_self]
      apply ByteArray.ext
      simp [blanksB]
    have e2 : (padB s side cn P0).size - hd.size = (blanksB (cn - tk)).size := by rw [hsz, blanksB_size]; omega
    rw [e2, e, app_ext_r]
  have cP : ∀ W : World, Calls Try.prog 17 #[.string s, .int .i64 (cn : Int), .int .i64 side] W fun e w' => e = .returned (.tuple #[.string (padB s side cn P0), .int .i64 0]) ∧ Below W.heap.size W w' := fun W => (pad_ok s (by omega) cn hc side hside W).mono fun e w' ⟨P, hP, _, he, hb⟩ => by
    rw [cutOf_one hP hP0] at he
    exact ⟨he, hb⟩
  have cC : ∀ W : World, Calls Try.prog 18 #[.string s, .int .i64 (cn : Int)] W fun e w' => e = .returned (.tuple #[.string hd, .string tl, .int .i64 (tk : Int)]) ∧ Below W.heap.size W w' := fun W => (cut_any s (by omega) cn W).mono fun e w' ⟨P, hP, _, he, hb⟩ => by
    rw [cutOf_one hP hP0, ehd, etl, etk] at he
    exact ⟨he, hb⟩
  obtain ⟨p, ep⟩ : ∃ p, padB s side cn P0 = p := ⟨_, rfl⟩
  simp only [ep] at cP hsz hpk hpre hsuf hix
  have cK := fun W : World => columnsOf_any p (by omega) W
  rw [show (colsL (cellsL p) : Nat) = cn by rw [hpk]; omega] at cK
  have cI := fun (W : World) (h : W.cell? ⟨0, 0, none⟩ = some (.int .i64 m)) => Try.strings_Index p hd m W (by omega) h
  obtain ⟨ix, eix⟩ : ∃ x, Lib.index p.data.toList hd.data.toList = x := ⟨_, rfl⟩
  rw [eix] at cI hix
  have cH : side = 1 → ∀ W : World, Calls Try.prog 34 #[.string p, .string hd] W fun e w' => e = .returned (.bool true) ∧ W = w' := fun h W => hpre_any p hd (hpre h) (by omega) (by omega) W
  have cS : side = 2 → ∀ W : World, Calls Try.prog 35 #[.string p, .string hd] W fun e w' => e = .returned (.bool true) ∧ W = w' := fun h W => hsuf_any p hd (hsuf h) (by omega) (by omega) W
  have k1 : IntKind.i64.wrap ((hd.size : Int) + (cn : Int)) = (hd.size : Int) + (cn : Int) := IntWalk.i64_in _ (by omega)
  have k2 : IntKind.i64.wrap ((hd.size : Int) + (cn : Int) - (tk : Int)) = (p.size : Int) := by rw [IntWalk.i64_in _ (by omega)]; omega
  have k3 : decide (ix < 0) = false := decide_eq_false (by omega)
  have k4 : ¬ ix < 0 := by omega
  clear hP0 hcl hend hhd hz ehd etl etk hpk hal hps hix hpre hsuf ep eix hsz
  have h3 : side = 1 ∨ side = 2 ∨ side = 3 := by
    unfold okSide at hside
    rw [Bool.or_eq_true, Bool.or_eq_true, beq_iff_eq, beq_iff_eq, beq_iff_eq] at hside
    omega
  clear hside
  rcases h3 with rfl | rfl | rfl
  · go_enter Try.func6, Try.ntmps6
    go_wp2_with (fail)
    refine (works_any _).mono ?_
    rintro e w1 ⟨rfl, hb1⟩
    go_wp2_with (fail)
    refine (cP _).mono ?_
    rintro e w2 ⟨rfl, hb2⟩
    have hB2 := hb1.trans (hb2.mono hb1.size)
    go_wp2_with (fail)
    refine (cC _).mono ?_
    rintro e w3 ⟨rfl, hb3⟩
    have hB3 := hB2.trans (hb3.mono hB2.size)
    go_wp2_with (fail)
    refine (cK _).mono ?_
    rintro e w4 ⟨rfl, hb4⟩
    have hB4 := hB3.trans (hb4.mono hB3.size)
    have m4 := at_below hm hB4
    clear hb1 hB2 hb2 hb3 hB3 hb4
    go_wp2_with (fail)
    refine (cI _ m4).mono ?_
    rintro e w5 ⟨rfl, rfl⟩
    go_wp2_with (fail)
    refine (cH trivial _).mono ?_
    rintro e w6 ⟨rfl, rfl⟩
    go_wp2_with (fail)
    refine (works_any _).mono ?_
    rintro e w7 ⟨rfl, hb7⟩
    have hB7 := hB4.trans (hb7.mono hB4.size)
    go_wp2
    go_ret
    exact ⟨rfl, hB7⟩
  · go_enter Try.func6, Try.ntmps6
    go_wp2_with (fail)
    refine (works_any _).mono ?_
    rintro e w1 ⟨rfl, hb1⟩
    go_wp2_with (fail)
    refine (cP _).mono ?_
    rintro e w2 ⟨rfl, hb2⟩
    have hB2 := hb1.trans (hb2.mono hb1.size)
    go_wp2_with (fail)
    refine (cC _).mono ?_
    rintro e w3 ⟨rfl, hb3⟩
    have hB3 := hB2.trans (hb3.mono hB2.size)
    go_wp2_with (fail)
    refine (cK _).mono ?_
    rintro e w4 ⟨rfl, hb4⟩
    have hB4 := hB3.trans (hb4.mono hB3.size)
    have m4 := at_below hm hB4
    clear hb1 hB2 hb2 hb3 hB3 hb4
    go_wp2_with (fail)
    refine (cI _ m4).mono ?_
    rintro e w5 ⟨rfl, rfl⟩
    go_wp2_with (fail)
    refine (cS trivial _).mono ?_
    rintro e w6 ⟨rfl, rfl⟩
    go_wp2_with (fail)
    refine (works_any _).mono ?_
    rintro e w7 ⟨rfl, hb7⟩
    have hB7 := hB4.trans (hb7.mono hB4.size)
    go_wp2
    go_ret
    exact ⟨rfl, hB7⟩
  · go_enter Try.func6, Try.ntmps6
    go_wp2_with (fail)
    refine (works_any _).mono ?_
    rintro e w1 ⟨rfl, hb1⟩
    go_wp2_with (fail)
    refine (cP _).mono ?_
    rintro e w2 ⟨rfl, hb2⟩
    have hB2 := hb1.trans (hb2.mono hb1.size)
    go_wp2_with (fail)
    refine (cC _).mono ?_
    rintro e w3 ⟨rfl, hb3⟩
    have hB3 := hB2.trans (hb3.mono hB2.size)
    go_wp2_with (fail)
    refine (cK _).mono ?_
    rintro e w4 ⟨rfl, hb4⟩
    have hB4 := hB3.trans (hb4.mono hB3.size)
    have m4 := at_below hm hB4
    clear hb1 hB2 hb2 hb3 hB3 hb4
    go_wp2_with (fail)
    refine (cI _ m4).mono ?_
    rintro e w5 ⟨rfl, rfl⟩
    go_wp2_with (fail)
    refine (works_any _).mono ?_
    rintro e w7 ⟨rfl, hb7⟩
    have hB7 := hB4.trans (hb7.mono hB4.size)
    go_wp2
    go_ret
    exact ⟨rfl, hB7⟩

theorem lpd_any (s : ByteArray) (hs : s.size ≤ 1048576) (cz side : Int) (m : Int) (w : World) (hm : w.cell? ⟨0, 0, none⟩ = some (.int .i64 m)) :
    Calls Try.prog 6 #[.string s, .int .i64 cz, .int .i64 side] w fun e w' => e = .returned (.bool true) ∧ Below w.heap.size w w' := by
  by_cases h1 : okSide side = false ∨ cz < 0
  · exact lpd_no s cz side 2 (.inl rfl) (fun W => pad_arg s cz side W h1) w
  · have hok : okSide side = true := by
      cases h : okSide side with
      | true => rfl
      | false => exact absurd (.inl h) h1
    by_cases h2 : 65536 < cz
    · exact lpd_no s cz side 3 (.inr rfl) (fun W => pad_long s cz side W hok h2) w
    · obtain ⟨cn, rfl⟩ : ∃ cn : Nat, cz = (cn : Int) := ⟨cz.toNat, by omega⟩
      exact lpd_ok s hs cn (by omega) side hok m w hm
end Go.Proofs.Ytnbhdgbhmcbeoaa
