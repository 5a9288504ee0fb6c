/- RunesJoins: the law's call, at every two texts. -/
import Derived.Test.YtgpnheaefagfiaaLj
namespace Go.Proofs.Ytgpnheaefagfiaa
set_option linter.unusedVariables false
set_option linter.unusedSimpArgs false
open Go Go.RowKit
set_option maxRecDepth 100000

theorem smV_shape {a b : ByteArray} {v : Value} (h : SmV a b v) : ∃ (x y : Int) (ok : Bool), v = .tuple #[.agg #[.int .i64 x, .int .i64 y], .bool ok] := by
  rcases h with ⟨p, _, rfl⟩ | ⟨_, rfl⟩
  · exact ⟨_, _, _, rfl⟩
  · exact ⟨_, _, _, rfl⟩

set_option maxHeartbeats 4000000 in
theorem joins_any (a b : ByteArray) (hab : a.size + b.size ≤ 1048576) (w : World) :
    Calls Try.prog 10 #[.string a, .string b] w fun e w' => e = .returned (.bool true) ∧ Below w.heap.size w w' := by
  have cS := seam_any a b (by omega) (by omega)
  have cR := seamR_any a b hab
  have cW1 := wants_any a (by omega)
  have cV1 := wantsR_any a (by omega)
  have hsz : (a ++ b).size = a.size + b.size := ByteArray.size_append
  obtain ⟨T, hT⟩ : ∃ T, a ++ b = T := ⟨_, rfl⟩
  rw [hT] at hsz
  have cW2 := wants_any T (by omega)
  have cV2 := wantsR_any T (by omega)
  obtain ⟨x1, hx1⟩ : ∃ x, waN a = x := ⟨_, rfl⟩
  obtain ⟨x2, hx2⟩ : ∃ x, waN T = x := ⟨_, rfl⟩
  rw [hx1] at cW1 cV1
  rw [hx2] at cW2 cV2
  clear hx1 hx2 hsz
  go_enter Try.func10, Try.ntmps10
  go_wp2_with (first | (go_at_call 15; refine (wakes_any _).mono ?_; rintro e w1 ⟨rfl, hb1⟩) | (go_at_call 53; refine (cS _).mono ?_; rintro e w2 ⟨v, hv, rfl, hb2⟩; obtain ⟨x, y, ok, rfl⟩ := smV_shape hv; have HV := Lib.hid hv; clear hv) | (go_at_call 54; refine (cR _).mono ?_; rintro e w3 ⟨u, hu, rfl, hb3⟩; obtain rfl := smV_one hu HV.out; clear hu; have q := (Blk.new w2 #[.int .i64 x, .int .i64 y] 49).below' hb3; have x0 : w3.cell? ⟨w2.heap.size, 0, none⟩ = some (.int .i64 x) := q.cell 0; have x1 : w3.cell? ⟨w2.heap.size, 1, none⟩ = some (.int .i64 y) := q.cell 1; have hql := q.lt) | (go_at_call 55; first | (with_reducible refine (cW1 _).mono ?_; rintro e w' ⟨rfl, rfl⟩) | (refine (cW2 _).mono ?_; rintro e w' ⟨rfl, rfl⟩)) | (go_at_call 56; first | (with_reducible refine (cV1 _).mono ?_; rintro e w4 ⟨rfl, hb4⟩) | (refine (cV2 _).mono ?_; rintro e w5 ⟨rfl, hb5⟩)))
  go_ret
  rename_i wa hba
  have hB2 := (hba : Below w.heap.size w wa).trans (hb2.mono hba.size)
  have hB3 := (hB2.alloc hB2.size _).trans (hb3.mono (by have := hB2.size; simp; omega))
  have hB4 := (hB3.alloc hB3.size _).trans (hb4.mono (by have := hB3.size; simp; omega))
  have hB5 := hB4.trans (hb5.mono hB4.size)
  exact ⟨rfl, hB5.trans (hb1.mono hB5.size)⟩
end Go.Proofs.Ytgpnheaefagfiaa
