/- What the document's Pieces answers: the list of a text's pieces. -/
import Derived.Test.YtgpnheaefagfiaaRefA
import Derived.Deep.AppendLies
namespace Go.Proofs.Ytgpnheaefagfiaa
set_option linter.unusedVariables false
set_option linter.unusedSimpArgs false
open Go Go.RowKit
set_option maxRecDepth 100000

/-- The cells of a list of pieces. -/
def pcs (s : ByteArray) (l : List Nat) : List Value := l.flatMap fun (i : Nat) => [.int .i64 i, .int .i64 (wd s i : Nat), .int .i32 (rn s i : Nat), .bool (bk s i)]
theorem pcs_snoc (s : ByteArray) (l : List Nat) (i : Nat) : pcs s (l ++ [i]) = pcs s l ++ [.int .i64 i, .int .i64 (wd s i : Nat), .int .i32 (rn s i : Nat), .bool (bk s i)] := by simp [pcs]
theorem pcs_len (s : ByteArray) (l : List Nat) : (pcs s l).length = l.length * 4 := by
  induction l with
  | nil => rfl
  | cons x l ih => simp only [pcs, List.flatMap_cons, List.length_append, List.length_cons, List.length_nil] at ih ⊢; omega

theorem own_below {w w1 : World} {base : Nat} {e : TypeId} {size n : Nat} {v : Value} {xs : List Value} (h : w.ownsRow base e size v n xs) (hb : Below w.heap.size w w1) : w1.ownsRow base e size v n xs :=
  h.kept (grown_none hb) (by cases v.ownBlock <;> simp)

theorem own_other {w w1 : World} {base : Nat} {e : TypeId} {size n : Nat} {v : Value} {xs : List Value} (h : w.ownsRow base e size v n xs) {k : Nat} (hk : w.heap.size ≤ k) (hw : w.heap.size ≤ w1.heap.size) : some k ≠ v.ownBlock := by
  intro e1
  have := h.lt k e1.symm
  omega

/-- Between two rounds of the document's Pieces. -/
def PsRel (s : ByteArray) (w : World) (l v : Value) (wr : World) : Prop :=
  ∃ (pre : List Nat) (pos : Nat), v = .int .i64 pos ∧ posns s = pre ++ posG s pos ∧ wr.ownsRow w.heap.size 24 4 l pre.length (pcs s pre) ∧ Below w.heap.size w wr

def PsPost (s : ByteArray) (w : World) (e : Ending) (w' : World) : Prop :=
  ∃ v, e = .returned v ∧ w'.ownsRow w.heap.size 24 4 v (posns s).length (pcs s (posns s)) ∧ Below w.heap.size w w'

set_option maxHeartbeats 1000000 in
theorem piecesR_any (s : ByteArray) (hs : s.size ≤ 1048576) (w : World) :
    Calls Try.prog 19 #[.string s] w (PsPost s w) := by
  obtain ⟨i0, hi, hz0, hz1, hz2⟩ := info_parts infoP
  go_enter Try.func19, Try.ntmps19
  go_wp2
  go_loopw [3, 4] (fun l v wr => PsRel s w l v wr) (fun _ v _ => s.size - (intOf v).toNat)
  case atStart => exact ⟨[], 0, rfl, by simp [posns_G], World.ownsRow_nil _ _ _ _, Below.refl _ _⟩
  case round =>
    obtain ⟨pre, pos, rfl, hpp, hown, hB⟩ := hrel
    by_cases hlt : pos < s.size
    · have hlen : pre.length < s.size := by
        have h1 := posns_len s
        rw [hpp, posG_cons s pos hlt] at h1
        simp at h1; omega
      have hpp2 : posns s = (pre ++ [pos]) ++ posG s (pos + wd s pos) := by rw [hpp, posG_cons s pos hlt]; simp
      have HP := Lib.hid hpp2
      have hwd := wd_pos s pos
      have hwf := wd_fits s pos hlt
      clear hpp hpp2
      go_wp2_with (first | (go_at_call 17; refine (atR_any s pos hlt (by omega) _).mono ?_; rintro e w1 ⟨rfl, hb1⟩) | (at_builtin; refine wpList_append_own _ rfl _ _ 29 rfl w.heap.size 24 i0 (.agg #[.int .i64 0, .int .i64 0, .int .i32 0, .bool false]) 4 24 Try.underlying29 hi hz0 hz1 hz2 rfl (by decide) _ _ _ rfl (((own_below hown hb1).alloc _).alloc _) ⟨w1.heap.size + 1, 0, none⟩ 1 1 [.int .i64 pos, .int .i64 (wd s pos : Nat), .int .i32 (rn s pos : Nat), .bool (bk s pos)] rfl rfl (World.news_of_block (cs := #[.int .i64 pos, .int .i64 (wd s pos : Nat), .int .i32 (rn s pos : Nat), .bool (bk s pos)]) (t := 24) (fr := (0, 0)) (by have := World.alloc_heap_new (w1.alloc (.cells #[.int .i64 pos, .int .i64 (wd s pos : Nat), .int .i32 (rn s pos : Nat), .bool (bk s pos)] 24)) (.cells #[.int .i64 pos, .int .i64 (wd s pos : Nat), .int .i32 (rn s pos : Nat), .bool (bk s pos)] 24); rwa [World.size_alloc] at this)) (fun x hx => by simp at hx; rcases hx with rfl | rfl | rfl | rfl <;> rfl) (by unfold maxLen; omega) (by omega) (by have := hB.size; have := hb1.size; simp; omega) ?_; intro v' w2 hown' hgrow _; have hc2 := hgrow.cell (a := ⟨w1.heap.size, 1, none⟩) (v := .int .i64 (wd s pos : Nat)) (by simp [go_sem]) (own_other hown hb1.size hb1.size)))
      go_roundw
      case rel =>
        have hBw : Below w.heap.size w w1 := hB.trans (hb1.mono hB.size)
        refine ⟨pre ++ [pos], pos + wd s pos, by go_num, HP.out, by rw [pcs_snoc, List.length_append]; exact hown', ?_⟩
        refine ((hBw.alloc hBw.size _).alloc (by have := hBw.size; simp; omega) _).grown hgrow (by have := hBw.size; simp; omega) (fun k hk => (hown.lt k hk).1)
      case measure => simp [intOf]; omega
    · go_wp2
      go_ret
      rw [posG_end s pos (by omega), List.append_nil] at hpp
      exact ⟨_, rfl, by rw [hpp]; exact hown, hB⟩
end Go.Proofs.Ytgpnheaefagfiaa
