/- Stage 16: Meet and Join: a row of marks in memory. -/
import Derived.Test.YtdcmkiggnmajgaaYy
import Derived.Test.YtdcmkiggnmajgaaXc
import Derived.Test.YtdcmkiggnmajgaaXb
import Derived.Laws.MakeOwn
import Derived.Laws.OwnMore
namespace Go.Proofs.Ytdcmkiggnmajgaa
set_option linter.unusedVariables false
set_option linter.unusedSimpArgs false
open Go Go.RowKit Go.Shelf
set_option maxRecDepth 100000

theorem make_ints (w : World) (n : Nat) (h : n ≤ 1000000) : (Instr.makeSlice 23 (.int .i64 (n : Int)) (.int .i64 (n : Int))).run Try.prog w = .ok (.slice (some ⟨w.heap.size, 0, none⟩) n n) (w.alloc (.cells (madeCells #[.int .i64 0] n) 3)) := by
  obtain ⟨i0, hi, hz0, hz1, hz2⟩ := info_parts infoInt
  have := run_make (P := Try.prog) w 23 3 i0 (.int .i64 0) Try.underlying23 hi hz0 .i64 .i64 n n (by omega) (by omega) (by rw [hz2]; omega) (by omega)
  rw [hz1, Nat.mul_one] at this
  exact this
theorem made_ints (n : Nat) : (madeCells #[.int .i64 0] n).toList = (rowF (fun _ => 0) n).flatMap encI := by
  apply List.ext_getElem?
  intro i
  simp only [madeCells]
  by_cases hi : i < n
  · have h2 := rowF_get (fun _ => 0) hi
    have h3 := fl_get (enc := encI) (k := 1) encI_len h2 (j := 0) (by omega)
    rw [Nat.mul_one, Nat.add_zero] at h3
    rw [h3]
    have h4 : (Array.range n)[i]? = some i := by simp [hi]
    rw [Array.getElem?_toList, Array.getElem?_map, h4]
    simp [encI, Nat.mod_one]
  · have h3 : ((rowF (fun _ => 0) n).flatMap encI).length = n := by rw [fl_len encI_len, rowF_len]; simp
    rw [List.getElem?_eq_none (by simp; omega), List.getElem?_eq_none (by rw [h3]; omega)]
/-- append of a row that came in, nil or not, in a plain walk. -/
theorem wpList_append_src {α : Type} {enc : α → List Value} {size : Nat} (hk : ∀ x, (enc x).length = size) {P : Program} {w : World} {ops : Array Oper} {rest : List Oper} {o : Oper} {a : Act} {Q : Exit → Act → World → Prop} (hgd : o.guard = none) (s x : Operand) (t : TypeId)
    (ho : o.op = .call { callee := .builtin .append, args := #[s, x], argTypes := #[t, t] })
    (base : Nat) (e : TypeId) (i : TypeInfo) (z : Value) (bytes : Nat) (ht : P.underlying t = some (.slice e)) (hi : P.info? e = some i) (hz : i.zero = some z)
    (hsize : i.size = size) (hby : i.bytes = bytes) (hzs : z.cells.size = size) (hsz : 0 < size)
    (v : Value) (n : Nat) (xs : List Value) (hs : a.eval s = v) (hown : w.ownsRow base e size v n xs)
    (l : List α) (oa : Option Addr) (c : Nat) (hf : NForm oa l.length c) (hr : RowAt w enc size oa l) (hone : ∀ u ∈ l.flatMap enc, u.oneCell' = true) (hx : a.eval x = .slice oa l.length c)
    (h63 : n + l.length ≤ maxLen) (hbytes : (n + l.length) * bytes ≤ 140737488355328) (hbase : base ≤ w.heap.size)
    (h : ∀ v' w', w'.ownsRow base e size v' (n + l.length) (xs ++ l.flatMap enc) → w.grownBy w' v.ownBlock → wpList P ops Q rest (a.put o.dst v') w') : wpList P ops Q (o :: rest) a w := by
  refine wpList_plain hgd fun K hK => ?_
  exact opwp_append_src hk s x t ho base e i z bytes ht hi hz hsize hby hzs hsz v n xs hs hown l oa c hf hr hone hx h63 hbytes hbase (fun v' w' h1 h2 => hK _ _ (h v' w' h1 h2))
theorem updF_two (f : Nat → Nat) (k u v : Nat) : updF (updF f k u) k v = updF f k v := by
  funext i
  simp only [updF]
  split <;> rfl
theorem updF_at (f : Nat → Nat) (k v : Nat) : updF f k v k = v := by simp [updF]
theorem updF_ne (f : Nat → Nat) {k i : Nat} (v : Nat) (h : i ≠ k) : updF f k v i = f i := by simp [updF, h]

/-- Two boxes, the result's, and a row of marks of one's own. -/
structure MkR (w X : World) (bx bY : Array Value) (G n : Nat) (f : Nat → Nat) : Prop where
  ba : Blk X w.heap.size bx 25
  bb : Blk X (w.heap.size + 1) bY 25
  res : Blk X (w.heap.size + 2) #[.slice none 0 0, .slice none 0 0] 25
  row : X.ownsRow (w.heap.size + 3) 3 1 (.slice (some ⟨G, 0, none⟩) n n) n ((rowF f n).flatMap encI)
  bel : Below w.heap.size w X
section
variable {w X Y : World} {bx bY : Array Value} {G n : Nat} {f : Nat → Nat}
theorem MkR.below (h : MkR w X bx bY G n f) (hb : Below X.heap.size X Y) : MkR w Y bx bY G n f :=
  ⟨h.ba.below' hb, h.bb.below' hb, h.res.below' hb, own_below h.row hb, h.bel.trans (hb.mono h.bel.size)⟩
theorem MkR.get (h : MkR w X bx bY G n f) {k : Nat} (hk : k < n) : X.cell? ⟨G, k, none⟩ = some (.int .i64 (f k : Nat)) :=
  getI h.row (rowF_get f hk) (rowF_len f n)
theorem MkR.free (h : MkR w X bx bY G n f) (k : Nat) : X.frozen? ⟨G, k, none⟩ = false := own_freeK h.row k
theorem MkR.put (h : MkR w X bx bY G n f) {k : Nat} (hk : k < n) (v : Nat) : MkR w (X.setCell ⟨G, k, none⟩ (.int .i64 (v : Nat))) bx bY G n (updF f k v) := by
  have hg := (h.row.lt G rfl).1
  refine ⟨h.ba.other (by omega) _ _, h.bb.other (by omega) _ _, h.res.other (by omega) _ _, ?_, h.bel.setCell (p := ⟨G, k, none⟩) (by dsimp only; omega) _⟩
  have h1 := putI h.row (x := (v : Int)) hk (rowF_len f n)
  rw [rowF_set] at h1
  exact h1
theorem MkR.rowAt (h : MkR w X bx bY G n f) : RowAt X encI 1 (some ⟨G, 0, none⟩) (rowF f n) := RowAt.of_own encI_len h.row (rowF_len f n)
end
theorem MkR.start {w W : World} {bx bY : Array Value} (n : Nat) (hn : n ≤ 1000000) (ba : Blk W w.heap.size bx 25) (bb : Blk W (w.heap.size + 1) bY 25) (res : Blk W (w.heap.size + 2) #[.slice none 0 0, .slice none 0 0] 25) (bel : Below w.heap.size w W) : MkR w (W.alloc (.cells (madeCells #[.int .i64 0] n) 3)) bx bY W.heap.size n (fun _ => 0) := by
  have hb := (Below.refl _ W).alloc (Nat.le_refl _) (.cells (madeCells #[.int .i64 0] n) 3)
  have hr := World.ownsRow_lit (base := w.heap.size + 3) (e := 3) (size := 1) W (madeCells #[.int .i64 0] n) n res.lt (by unfold maxLen; omega) (by rw [size_madeCells, Nat.mul_one])
  rw [made_ints] at hr
  exact ⟨ba.below' hb, bb.below' hb, res.below' hb, hr, bel.trans (hb.mono bel.size)⟩
/-- The world at the start: two boxes and the result. -/
theorem boxes3 (w : World) (bx bY : Array Value) : ∃ W, (((w.alloc (.cells bx 25)).alloc (.cells bY 25)).alloc (.cells #[.slice none 0 0, .slice none 0 0] 25)) = W ∧ Blk W w.heap.size bx 25 ∧ Blk W (w.heap.size + 1) bY 25 ∧ Blk W (w.heap.size + 2) #[.slice none 0 0, .slice none 0 0] 25 ∧ Below w.heap.size w W ∧ W.heap.size = w.heap.size + 3 := by
  have hB0 := (((Below.refl _ w).alloc (Nat.le_refl _) (.cells bx 25)).alloc (by simp) (.cells bY 25)).alloc (by simp; omega) (.cells #[.slice none 0 0, .slice none 0 0] 25)
  have bA := ((Blk.new w bx 25).alloc (.cells bY 25)).alloc (.cells #[.slice none 0 0, .slice none 0 0] 25)
  have bB := (Blk.new (w.alloc (.cells bx 25)) bY 25).alloc (.cells #[.slice none 0 0, .slice none 0 0] 25)
  have bC := Blk.new ((w.alloc (.cells bx 25)).alloc (.cells bY 25)) #[.slice none 0 0, .slice none 0 0] 25
  simp only [World.size_alloc] at bB bC
  exact ⟨_, rfl, bA, bB, bC, hB0, by simp⟩
end Go.Proofs.Ytdcmkiggnmajgaa
