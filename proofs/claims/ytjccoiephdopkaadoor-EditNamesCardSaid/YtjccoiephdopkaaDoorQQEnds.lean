/- The boundaries of a text: what the document's Ends answers. -/
import Derived.Test.YtjccoiephdopkaaDoorQQRefB
import Derived.Test.YtjccoiephdopkaaDoorArM
import Derived.Handy
namespace Go.Proofs.YtjccoiephdopkaaDoor.SQ
set_option linter.unusedVariables false
set_option linter.unusedSimpArgs false
open Go Go.RowKit
set_option maxRecDepth 100000

/-- Numbers, as values. -/
def ints (l : List Nat) : List Value := l.map fun (i : Nat) => Value.int .i64 i
theorem ints_snoc (l : List Nat) (i : Nat) : ints (l ++ [i]) = ints l ++ [.int .i64 i] := by simp [ints]

theorem rows_apart {w : World} {b1 b2 : Nat} {e1 e2 : TypeId} {s1 s2 n1 n2 : Nat} {v1 v2 : Value} {x1 x2 : List Value} (h1 : w.ownsRow b1 e1 s1 v1 n1 x1) (h2 : w.ownsRow b2 e2 s2 v2 n2 x2) (he : e1 ≠ e2) : v1.ownBlock = none ∨ v1.ownBlock ≠ v2.ownBlock := by
  rcases h1.2 with ⟨rfl, _⟩ | ⟨g1, c1, cur1, rfl, _, hg1, _⟩
  · exact .inl rfl
  · rcases h2.2 with ⟨rfl, _⟩ | ⟨g2, c2, cur2, rfl, _, hg2, _⟩
    · right; simp [Value.ownBlock]
    · right
      simp only [Value.ownBlock, ne_eq, Option.some.injEq]
      intro e
      rw [e, hg2] at hg1
      cases hg1
      exact he rfl

theorem own_slice {w : World} {b : Nat} {e : TypeId} {sz n : Nat} {v : Value} {xs : List Value} (h : w.ownsRow b e sz v n xs) : ∃ o cap, v = .slice o n cap ∧ (0 < n → ∃ g, o = some ⟨g, 0, none⟩) := by
  rcases h.2 with ⟨rfl, rfl⟩ | ⟨g, cap, cur, rfl, _⟩
  · exact ⟨none, 0, rfl, fun h => by omega⟩
  · exact ⟨_, cap, rfl, fun _ => ⟨g, rfl⟩⟩

theorem cell_one_new2 (W : World) (o : Obj) (x : Value) (t : TypeId) : ∀ j u, [x][j]? = some u → ((W.alloc o).alloc (.cells #[x] t)).cell? ((⟨W.heap.size + 1, 0, none⟩ : Addr).add j) = some u := by
  have := World.alloc_heap_new (W.alloc o) (.cells #[x] t)
  rw [World.size_alloc] at this
  exact World.news_of_block (cs := #[x]) this

theorem infoI : (Tryd.prog.info? 3).map (fun i => (i.zero, i.size, i.bytes)) = some (some (.int .i64 0), 1, 8) := by kernel_rfl

/-- Piece number k of a list of pieces, where it lies. -/
theorem nth_cells {T : ByteArray} {l : List Nat} {base g cap n : Nat} {w : World} (h : w.ownsRow base 120 4 (.slice (some ⟨g, 0, none⟩) n cap) n (pcs T l)) (hn : l.length = n) (k : Nat) (hk : k < n) (p : Nat) (hp : l[k]? = some p) :
    w.cell? ⟨g, k * 4, none⟩ = some (.int .i64 p) ∧ w.cell? ⟨g, k * 4 + 1, none⟩ = some (.int .i64 (wd T p : Nat)) ∧
      w.cell? ⟨g, k * 4 + 2, none⟩ = some (.int .i32 (rn T p : Nat)) ∧ w.cell? ⟨g, k * 4 + 3, none⟩ = some (.bool (bk T p)) := by
  have hc := fun j (hj : j < n * 4) => h.cellAt j hj
  have hs : l = l.take k ++ p :: l.drop (k + 1) := by
    have h1 : k < l.length := by omega
    rw [List.getElem?_eq_getElem h1] at hp
    rw [← Option.some.inj hp, List.getElem_cons_drop, List.take_append_drop]
  have hpcs : pcs T l = pcs T (l.take k) ++ ([.int .i64 p, .int .i64 (wd T p : Nat), .int .i32 (rn T p : Nat), .bool (bk T p)] ++ pcs T (l.drop (k + 1))) := by
    conv => lhs; rw [hs]
    simp [pcs]
  have hl : (pcs T (l.take k)).length = k * 4 := by rw [pcs_len, List.length_take]; omega
  refine ⟨?_, ?_, ?_, ?_⟩
  · rw [hc _ (by omega), hpcs, List.getElem?_append_right (by omega), show k * 4 - (pcs T (l.take k)).length = 0 by omega]; rfl
  · rw [hc _ (by omega), hpcs, List.getElem?_append_right (by omega), show k * 4 + 1 - (pcs T (l.take k)).length = 1 by omega]; rfl
  · rw [hc _ (by omega), hpcs, List.getElem?_append_right (by omega), show k * 4 + 2 - (pcs T (l.take k)).length = 2 by omega]; rfl
  · rw [hc _ (by omega), hpcs, List.getElem?_append_right (by omega), show k * 4 + 3 - (pcs T (l.take k)).length = 3 by omega]; rfl

/-- Number k of a list of numbers, where it lies. -/
theorem nth_int {l : List Nat} {e : TypeId} {base g cap n : Nat} {w : World} (h : w.ownsRow base e 1 (.slice (some ⟨g, 0, none⟩) n cap) n (ints l)) (hn : l.length = n) (k : Nat) (hk : k < n) (p : Nat) (hp : l[k]? = some p) :
    w.cell? ⟨g, k, none⟩ = some (.int .i64 p) := by
  rw [h.cellAt k (by omega)]
  simp [ints, hp]

def EnPost (s : ByteArray) (w : World) (e : Ending) (w' : World) : Prop :=
  ∃ g cap, e = .returned (.slice (some ⟨g, 0, none⟩) (ends s).length cap) ∧ w'.ownsRow w.heap.size 3 1 (.slice (some ⟨g, 0, none⟩) (ends s).length cap) (ends s).length (ints (ends s)) ∧ Below w.heap.size w w'

def EnRel (s : ByteArray) (w : World) (pv : Value) (v i : Value) (wr : World) : Prop :=
  ∃ k : Nat, i = .int .i64 k ∧ k ≤ (posns s).length ∧ wr.ownsRow w.heap.size 3 1 v k (ints ((posns s).take k)) ∧ wr.ownsRow w.heap.size 120 4 pv (posns s).length (pcs s (posns s)) ∧ Below w.heap.size w wr

end Go.Proofs.YtjccoiephdopkaaDoor.SQ
