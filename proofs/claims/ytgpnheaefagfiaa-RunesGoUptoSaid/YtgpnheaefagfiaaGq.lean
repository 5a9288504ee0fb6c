/- RunesGo: what Go's own conversion of a text to runes makes. -/
import Derived.Test.YtgpnheaefagfiaaGp
import Derived.Test.YtgpnheaefagfiaaTo
import Derived.Laws.IdiomStrings
namespace Go.Proofs.Ytgpnheaefagfiaa
set_option linter.unusedVariables false
set_option linter.unusedSimpArgs false
open Go Go.RowKit
set_option maxRecDepth 100000

theorem runes_from (s : ByteArray) : ∀ (b i : Nat) (acc : Array Value), s.size - i ≤ b → Conv.runesFrom s b i acc = acc ++ (rns s (posG s i)).toArray := by
  intro b
  induction b with
  | zero =>
    intro i acc h
    rw [posG_end s i (by omega)]
    simp [Conv.runesFrom, rns]
  | succ b ih =>
    intro i acc h
    unfold Conv.runesFrom
    by_cases hi : i < s.size
    · have h1 := wd_pos s i
      rw [if_pos hi, posG_cons s i hi, dec_eq s i hi]
      show Conv.runesFrom s b (i + wd s i) (acc.push (.int .i32 (Int.ofNat (rn s i)))) = _
      rw [ih (i + wd s i) _ (by omega)]
      apply Array.ext'
      simp [rns]
    · rw [if_neg hi, posG_end s i (by omega)]
      simp [rns]

/-- []rune(s): the runes of the pieces. -/
theorem runes_all (s : ByteArray) : Conv.runesFrom s s.size 0 #[] = (rns s (posns s)).toArray := by
  rw [runes_from s s.size 0 #[] (by omega), posns_G]
  simp
theorem rns_rnZ (s : ByteArray) (l : List Nat) : rns s l = (rnZ s l).map (fun z => Value.int .i32 z) := by simp [rns, rnZ]

/-- []rune(s): new memory that holds the runes. -/
theorem conv_to_runes (s : ByteArray) (hs : s.size ≤ 1048576) (w : World) : ∃ cap cs, (convert 9 55 (.string s)).run Try.prog w = .ok (.slice (some ⟨w.heap.size, 0, none⟩) (posns s).length cap) (w.drew.alloc (.cells cs 21)) ∧
    RowI (w.drew.alloc (.cells cs 21)) (some ⟨w.heap.size, 0, none⟩) (rnZ s (posns s)) := by
  have hn : (rns s (posns s)).toArray.size = (posns s).length := by simp [rns]
  have hpl := posns_len s
  have h := run_runes_of_string (P := Try.prog) w 9 55 21 s Try.underlying9 Try.underlying55 Try.underlying21 (by rw [runes_all, hn]; omega)
  rw [runes_all, hn] at h
  refine ⟨_, _, h, ?_⟩
  intro k hk
  refine ⟨w.heap.size, 0, rfl, ?_⟩
  rw [Nat.zero_add]
  have hk2 : k < (posns s).length := by simpa [rnZ] using hk
  have hb := World.alloc_heap_new w.drew (.cells ((rns s (posns s)).toArray ++ Array.replicate (grownCap w (posns s).length 0 21 - (posns s).length) (.int .i32 0)) 21)
  have hc := cell_of_row _ w.heap.size k _ _ _ hb
  rw [hc, Array.getElem?_append_left (by rw [hn]; exact hk2)]
  simp [rns, rnZ]
  exact ⟨(posns s)[k], List.getElem?_eq_getElem hk2, by rw [List.getElem?_eq_getElem hk2]; rfl⟩
end Go.Proofs.Ytgpnheaefagfiaa
