/- Layer 5: Reverse. -/
import Derived.Test.YtnbhdgbhmcbeoaaClp
import Derived.Test.YtnbhdgbhmcbeoaaCl8
import Derived.Test.YtnbhdgbhmcbeoaaRg
import Derived.Room.AppendFits
import Derived.Lib.AppendZeros
namespace Go.Proofs.Ytnbhdgbhmcbeoaa
set_option linter.unusedVariables false
set_option linter.unusedSimpArgs false
open Go Go.RowKit Go.Shelf
set_option maxRecDepth 100000
attribute [local go_sem] Oper.semAt_some

/-- Clusters' texts, one behind the other. -/
def catR (s : ByteArray) (l : List Cel) : ByteArray := l.foldl (fun a x => a ++ s.extract x.1 x.2.1) ByteArray.empty
theorem catR_snoc (s : ByteArray) (l : List Cel) (x : Cel) : catR s (l ++ [x]) = catR s l ++ s.extract x.1 x.2.1 := by simp [catR]
theorem strCells_app (a b : ByteArray) : Lib.strCells (a ++ b) = Lib.strCells a ++ Lib.strCells b := by simp [Lib.strCells, ByteArray.data_append]
theorem own_lowR {X : World} {base b2 sz n : Nat} {e : TypeId} {v : Value} {xs : List Value} (h : X.ownsRow base e sz v n xs) (hb : b2 ≤ base) : X.ownsRow b2 e sz v n xs :=
  ⟨h.1, h.2.imp id (fun ⟨g, cap, cur, e1, h1, r⟩ => ⟨g, cap, cur, e1, Nat.le_trans hb h1, r⟩)⟩
def widL (l : List Cel) : Nat := (l.map fun c => c.2.1 - c.1).sum
theorem widL_app (a b : List Cel) : widL (a ++ b) = widL a + widL b := by simp [widL, List.sum_append]
theorem widL_cells (s : ByteArray) : ∀ d i, s.size - i = d → i ≤ s.size → widL (cellsG s i) = s.size - i := by
  intro d
  induction d using Nat.strongRecOn with
  | _ d ih =>
    intro i hd hi
    by_cases h : i < s.size
    · have hb := fstC_bd s i h
      rw [cellsG_cons s i h]
      have := ih (s.size - (fstC s i).1) (by omega) _ rfl hb.2.1
      show ((fstC s i).1 - i) + widL (cellsG s (fstC s i).1) = _
      omega
    · rw [cellsG_end s i (by omega)]; show 0 = _; omega
theorem widL_rev (s : ByteArray) : widL (revL s) = s.size := by
  have h : widL (revL s) = widL (cellsL s) := by
    unfold widL revL
    rw [List.map_reverse, List.sum_reverse]
  rw [h]
  exact widL_cells s _ 0 rfl (Nat.zero_le _)
theorem catR_size (s : ByteArray) : ∀ (n : Nat) (l : List Cel), l.length = n → (∀ c ∈ l, c.2.1 ≤ s.size) → (catR s l).size = widL l
  | 0, l, h, _ => by rw [List.length_eq_zero_iff.1 h]; rfl
  | n + 1, l, h, hm => by
    rcases List.eq_nil_or_concat l with rfl | ⟨q, x, e⟩
    · rfl
    · rw [List.concat_eq_append] at e
      subst e
      have hq := catR_size s n q (by simpa using h) (fun c hc => hm c (List.mem_append_left _ hc))
      have hx := hm x (by simp)
      rw [catR_snoc, ByteArray.size_append, hq, widL_app, ByteArray.size_extract]
      simp only [widL, List.map_cons, List.map_nil, List.sum_cons, List.sum_nil]
      omega
theorem rev_mem {s : ByteArray} {c : Cel} (h : c ∈ revL s) : c.1 < c.2.1 ∧ c.2.1 ≤ s.size := by
  have := cellsG_mem s _ 0 rfl c (by unfold revL at h; exact List.mem_reverse.1 h)
  exact ⟨this.2.1, this.2.2.1⟩
theorem catR_fits {s : ByteArray} {pre : List Cel} {x : Cel} (h : pre ++ [x] <+: revL s) : (catR s pre).size + (s.extract x.1 x.2.1).size ≤ s.size ∧ x.1 < x.2.1 ∧ x.2.1 ≤ s.size := by
  have hm : ∀ c ∈ pre ++ [x], c.2.1 ≤ s.size := fun c hc => (rev_mem (h.subset hc)).2
  have h1 := catR_size s _ (pre ++ [x]) rfl hm
  rw [catR_snoc, ByteArray.size_append] at h1
  obtain ⟨R, hR⟩ := h
  have h2 := widL_rev s
  rw [← hR, widL_app] at h2
  have h3 := rev_mem (s := s) (c := x) (by rw [← hR]; simp)
  exact ⟨by omega, h3⟩
theorem make_cap (w : World) (n : Nat) (h : n ≤ 140737488355328) : (Instr.makeSlice 57 (.int .i64 0) (.int .i64 (n : Int))).run Try.prog w = .ok (.slice (some ⟨w.heap.size, 0, none⟩) 0 n) (w.alloc (.cells (madeCells #[.int .u8 0] n) 5)) := by
  obtain ⟨i0, hi, hz0, hz1, hz2⟩ := info_parts infoU8
  have := run_make (P := Try.prog) w 57 5 i0 (.int .u8 0) Try.underlying57 hi hz0 .i64 .i64 0 n (by omega) (by omega) (by rw [hz2]; omega) (by omega)
  rw [hz1, show (Value.int .u8 0).cells = #[.int .u8 0] from rfl] at this
  simpa using this
theorem made_cap (w : World) (n : Nat) (h : n ≤ 140737488355328) : (w.alloc (.cells (madeCells #[.int .u8 0] n) 5)).ownsRow w.heap.size 5 1 (.slice (some ⟨w.heap.size, 0, none⟩) 0 n) 0 [] :=
  ⟨by simp, .inr ⟨w.heap.size, n, madeCells #[.int .u8 0] n, rfl, Nat.le_refl _, World.alloc_heap_new w _, Nat.zero_le _, by unfold maxLen; omega, by rw [size_madeCells]; omega, by simp⟩⟩
def RvI (s : ByteArray) (w V : World) (pre : List Cel) (X : World) : Prop :=
  (((Boxed X w.heap.size 9 (.string s) ∧ Boxed X (w.heap.size + 2) 57 (.slice (some ⟨w.heap.size + 1, 0, none⟩) (catR s pre).size s.size)) ∧ X.ownsRow w.heap.size 5 1 (.slice (some ⟨w.heap.size + 1, 0, none⟩) (catR s pre).size s.size) (catR s pre).size (Lib.strCells (catR s pre))) ∧ (Below w.heap.size w X ∧ V.heap.size ≤ X.heap.size)) ∧ pre <+: revL s
theorem rvI_ab (s : ByteArray) (w V : World) (h : w.heap.size + 3 ≤ V.heap.size) : AbX V.heap.size FrT (RvI s w V) := fun t X Y row hs hg hr => by
  obtain ⟨⟨⟨⟨h1, h2⟩, h3⟩, h4⟩, h5⟩ := hs
  have hn : ∀ k, k < V.heap.size → some k ≠ row := fun k hk e => by have := (hr k e.symm).1; omega
  refine ⟨⟨⟨⟨Blk.kept (show Blk _ _ _ _ from h1) hg (hn _ (by omega)), Blk.kept (show Blk _ _ _ _ from h2) hg (hn _ (by omega))⟩, own_same h3 (fun g e => ?_)⟩, ⟨h4.1.grown hg (by omega) (fun r e => by have := (hr r e).1; omega), Nat.le_trans h4.2 hg.size⟩⟩, h5⟩
  have e : g = w.heap.size + 1 := by simpa [Value.ownBlock] using e.symm
  exact hg.block g (by omega) (hn g (by omega))

set_option maxHeartbeats 8000000 in
theorem rev_in (s : ByteArray) (hs : s.size ≤ 1048576) (w : World) :
    CallsIn Fence.wide 12 Try.prog 19 #[.string s] w fun e w' => e = .returned (.string (catR s (revL s))) ∧ Below w.heap.size w w' := by
  obtain ⟨i0, hi, hz0, hz1, hz2⟩ := info_parts infoU8
  have hm := fun W => make_cap W s.size (by omega)
  have hr0 := fun W => made_cap W s.size (by omega)
  obtain ⟨C, hC⟩ : ∃ C, madeCells #[.int .u8 0] s.size = C := ⟨_, rfl⟩
  simp only [hC] at hm hr0
  clear hC
  refine callsIn_of_wp_marks Try.func19 rfl trivial ?_ rfl
  simp only [Try.ntmps19, List.size_toArray, List.length_cons, List.length_nil, Nat.reduceAdd, Nat.reduceSub, Array.replicate_succ, Array.replicate_zero, List.push_toArray, List.append_toArray, List.nil_append, List.cons_append]
  have hF : ∀ f, Fence.wide.fn f := fun _ => trivial
  gi_wp2_with (gi_at_call 28; refine (callsIn_wide.2 (back_any _ _)).mono ?_; rintro e w' ⟨rfl, rfl⟩)
  have b0 : Boxed _ _ _ _ := (((Boxed.new w 9 (.string s)).alloc (.cells C 5)).alloc (.cells #[.slice (some ⟨w.heap.size + 1, 0, none⟩) 0 s.size] 57)).alloc (.cells #[.string s] 9)
  have b1 : Blk _ _ _ _ := ((Blk.new (w.alloc (.cells #[.string s] 9)) C 5).alloc (.cells #[.slice (some ⟨w.heap.size + 1, 0, none⟩) 0 s.size] 57)).alloc (.cells #[.string s] 9)
  have b2 : Boxed _ _ _ _ := (Boxed.new ((w.alloc (.cells #[.string s] 9)).alloc (.cells C 5)) 57 (.slice (some ⟨w.heap.size + 1, 0, none⟩) 0 s.size)).alloc (.cells #[.string s] 9)
  have b3 : Boxed _ _ _ _ := Boxed.new (((w.alloc (.cells #[.string s] 9)).alloc (.cells C 5)).alloc (.cells #[.slice (some ⟨w.heap.size + 1, 0, none⟩) 0 s.size] 57)) 9 (.string s)
  have hB := ((((Below.refl _ w).alloc (Nat.le_refl _) (.cells #[.string s] 9)).alloc (by simp) (.cells C 5)).alloc (by simp; omega) (.cells #[.slice (some ⟨w.heap.size + 1, 0, none⟩) 0 s.size] 57)).alloc (by simp; omega) (.cells #[.string s] 9)
  have hz : ((((w.alloc (.cells #[.string s] 9)).alloc (.cells C 5)).alloc (.cells #[.slice (some ⟨w.heap.size + 1, 0, none⟩) 0 s.size] 57)).alloc (.cells #[.string s] 9)).heap.size = w.heap.size + 4 := by simp
  simp only [World.size_alloc, Nat.add_assoc, Nat.reduceAdd] at b1 b2 b3 ⊢
  obtain ⟨V, hV⟩ : ∃ V, ((((w.alloc (.cells #[.string s] 9)).alloc (.cells C 5)).alloc (.cells #[.slice (some ⟨w.heap.size + 1, 0, none⟩) 0 s.size] 57)).alloc (.cells #[.string s] 9)) = V := ⟨_, rfl⟩
  rw [hV] at b0 b1 b2 b3 hB hz ⊢
  have hVV := hV
  clear hV
  have row0 : V.ownsRow w.heap.size 5 1 (.slice (some ⟨w.heap.size + 1, 0, none⟩) 0 s.size) 0 [] := by
    have := ((hr0 (w.alloc (.cells #[.string s] 9))).alloc (.cells #[.slice (some ⟨w.heap.size + 1, 0, none⟩) 0 s.size] 57)).alloc (.cells #[.string s] 9)
    simp only [World.size_alloc] at this
    rw [hVV] at this
    exact own_lowR this (by omega)
  clear hVV hr0 hm b1
  refine range_back 4 s (by omega) (w.heap.size + 3) b3 rfl (RvI s w V) (fun _ _ _ => False) (rvI_ab s w V (by omega)) (fun _ _ _ _ _ h _ _ => h) ⟨⟨⟨⟨b0, b2⟩, row0⟩, hB, Nat.le_refl _⟩, List.nil_prefix⟩ ?assign ?body ?done ?stop
  case assign =>
    intro l x W K hK
    simp only [celV] at hK ⊢
    gi_wp2
    exact hK
  case stop => exact fun _ _ _ _ _ _ h _ => h.elim
  case body =>
    rintro l pre x Bx X ⟨⟨⟨⟨h1, h2⟩, h3⟩, h4⟩, h5⟩ hle hbx hlen hdue
    obtain ⟨hroom, hx1, hx2⟩ := catR_fits hdue
    have bx : Blk X Bx #[.int .i64 (x.1 : Nat), .int .i64 (x.2.1 : Nat), .int .i64 (x.2.2 : Nat)] 26 := hbx
    have x0 := bx.cell 0
    have x1 := bx.cell 1
    simp only [List.getElem?_toArray, List.getElem?_cons_succ, List.getElem?_cons_zero] at x0 x1
    have cs := h1.cell
    have co := h2.cell
    have k1 : (0 : Int) ≤ (x.1 : Int) := by omega
    have k2 : (x.1 : Int) ≤ (x.2.1 : Int) := by omega
    have k3 : (x.2.1 : Int) ≤ (s.size : Int) := by omega
    have hsn := catR_snoc s pre x
    obtain ⟨ct, hct⟩ : ∃ c, catR s pre = c := ⟨_, rfl⟩
    rw [hct] at h2 h3 hroom co hsn
    obtain ⟨m, hm⟩ : ∃ m, ct.size = m := ⟨_, rfl⟩
    rw [hm] at h2 h3 hroom co
    have HS := Lib.hid (And.intro hsn (And.intro hm hdue))
    clear hsn hct hm hdue hbx bx
    simp only [celV, List.setIfInBounds_toArray, List.set_cons_zero, List.set_cons_succ]
    gi_wp2_with (fail)
    refine round_g (S := untilG [9] (fun Y => Below X.heap.size X Y)) (by kernel_rfl) (by kernel_rfl) (noOut (fun _ _ h => h)) ?_
    obtain ⟨X0, hX0⟩ : ∃ Y, X.drew = Y := ⟨_, rfl⟩
    have T0 : Below X.heap.size X X0 := hX0 ▸ (Below.refl X.heap.size X).drew
    rw [hX0]
    clear hX0
    refine wpAnyG_take [0, 10] (i := 0) (v := (.slice (some ⟨w.heap.size + 1, 0, none⟩) m s.size)) rfl (by kernel_rfl) (by kernel_rfl) (by kernel_rfl) (by kernel_rfl) (by kernel_rfl) (by kernel_rfl) (by kernel_rfl) (by kernel_rfl) (fun _ _ _ h => h) (Or.inl ⟨by rfl, ?hy⟩) T0 ?_
    case hy =>
      intro X hX
      have e0 := at_below co hX
      go_simp
    try simp only [Act.put, List.getElem_toArray, List.getElem_cons_zero, List.getElem_cons_succ, List.setIfInBounds_toArray, List.set_cons_zero, List.set_cons_succ]
    refine wpAnyG_take [1, 8, 10] (i := 1) (v := (.string s)) rfl (by kernel_rfl) (by kernel_rfl) (by kernel_rfl) (by kernel_rfl) (by kernel_rfl) (by kernel_rfl) (by kernel_rfl) (by kernel_rfl) (fun _ _ _ h => h) (Or.inl ⟨by rfl, ?hy⟩) T0 ?_
    case hy =>
      intro X hX
      have e0 := at_below cs hX
      go_simp
    try simp only [Act.put, List.getElem_toArray, List.getElem_cons_zero, List.getElem_cons_succ, List.setIfInBounds_toArray, List.set_cons_zero, List.set_cons_succ]
    refine wpAnyG_take [2, 3, 4, 8, 10] (i := 2) (v := (.pointer (some ⟨Bx, 0, none⟩))) rfl (by kernel_rfl) (by kernel_rfl) (by kernel_rfl) (by kernel_rfl) (by kernel_rfl) (by kernel_rfl) (by kernel_rfl) (by kernel_rfl) (fun _ _ _ h => h) (Or.inl ⟨by rfl, ?hy⟩) T0 ?_
    case hy =>
      intro X hX
      go_simp
    try simp only [Act.put, List.getElem_toArray, List.getElem_cons_zero, List.getElem_cons_succ, List.setIfInBounds_toArray, List.set_cons_zero, List.set_cons_succ]
    refine wpAnyG_take [3, 4, 8, 10] (i := 3) (v := (.pointer (some ⟨Bx, 0, none⟩))) rfl (by kernel_rfl) (by kernel_rfl) (by kernel_rfl) (by kernel_rfl) (by kernel_rfl) (by kernel_rfl) (by kernel_rfl) (by kernel_rfl) (fun _ _ _ h => h) (Or.inl ⟨by rfl, ?hy⟩) T0 ?_
    case hy =>
      intro X hX
      go_simp
    try simp only [Act.put, List.getElem_toArray, List.getElem_cons_zero, List.getElem_cons_succ, List.setIfInBounds_toArray, List.set_cons_zero, List.set_cons_succ]
    refine wpAnyG_take [4, 8, 10] (i := 4) (v := (.int .i64 (x.1 : Nat))) rfl (by kernel_rfl) (by kernel_rfl) (by kernel_rfl) (by kernel_rfl) (by kernel_rfl) (by kernel_rfl) (by kernel_rfl) (by kernel_rfl) (fun _ _ _ h => h) (Or.inl ⟨by rfl, ?hy⟩) T0 ?_
    case hy =>
      intro X hX
      have e0 := at_below x0 hX
      go_simp
    try simp only [Act.put, List.getElem_toArray, List.getElem_cons_zero, List.getElem_cons_succ, List.setIfInBounds_toArray, List.set_cons_zero, List.set_cons_succ]
    refine wpAnyG_take [5, 6, 7, 8, 10] (i := 5) (v := (.pointer (some ⟨Bx, 0, none⟩))) rfl (by kernel_rfl) (by kernel_rfl) (by kernel_rfl) (by kernel_rfl) (by kernel_rfl) (by kernel_rfl) (by kernel_rfl) (by kernel_rfl) (fun _ _ _ h => h) (Or.inl ⟨by rfl, ?hy⟩) T0 ?_
    case hy =>
      intro X hX
      go_simp
    try simp only [Act.put, List.getElem_toArray, List.getElem_cons_zero, List.getElem_cons_succ, List.setIfInBounds_toArray, List.set_cons_zero, List.set_cons_succ]
    refine wpAnyG_take [6, 7, 8, 10] (i := 6) (v := (.pointer (some ⟨Bx, 1, none⟩))) rfl (by kernel_rfl) (by kernel_rfl) (by kernel_rfl) (by kernel_rfl) (by kernel_rfl) (by kernel_rfl) (by kernel_rfl) (by kernel_rfl) (fun _ _ _ h => h) (Or.inl ⟨by rfl, ?hy⟩) T0 ?_
    case hy =>
      intro X hX
      go_simp
    try simp only [Act.put, List.getElem_toArray, List.getElem_cons_zero, List.getElem_cons_succ, List.setIfInBounds_toArray, List.set_cons_zero, List.set_cons_succ]
    refine wpAnyG_take [7, 8, 10] (i := 7) (v := (.int .i64 (x.2.1 : Nat))) rfl (by kernel_rfl) (by kernel_rfl) (by kernel_rfl) (by kernel_rfl) (by kernel_rfl) (by kernel_rfl) (by kernel_rfl) (by kernel_rfl) (fun _ _ _ h => h) (Or.inl ⟨by rfl, ?hy⟩) T0 ?_
    case hy =>
      intro X hX
      have e0 := at_below x1 hX
      go_simp
    try simp only [Act.put, List.getElem_toArray, List.getElem_cons_zero, List.getElem_cons_succ, List.setIfInBounds_toArray, List.set_cons_zero, List.set_cons_succ]
    refine wpAnyG_take [8, 10] (i := 8) (v := (.string (s.extract x.1 x.2.1))) rfl (by kernel_rfl) (by kernel_rfl) (by kernel_rfl) (by kernel_rfl) (by kernel_rfl) (by kernel_rfl) (by kernel_rfl) (by kernel_rfl) (fun _ _ _ h => h) (Or.inl ⟨by rfl, ?hy⟩) T0 ?_
    case hy =>
      intro X hX
      go_simp
    try simp only [Act.put, List.getElem_toArray, List.getElem_cons_zero, List.getElem_cons_succ, List.setIfInBounds_toArray, List.set_cons_zero, List.set_cons_succ]
    have own0 := own_below h3 T0
    obtain ⟨w2, hrun, hown2, hgr⟩ := Lib.run_append_fits_string (P := Try.prog) X0 w.heap.size 57 9 57 5 i0 Try.underlying57 Try.underlying9 hi hz1 (some ⟨w.heap.size + 1, 0, none⟩) m s.size _ own0 (s.extract x.1 x.2.1) (by omega) hroom
    refine wpAnyG_all (rs := [9]) (by kernel_rfl) (by simp) ?_
    intro i hi
    simp only [List.mem_cons, List.not_mem_nil, or_false] at hi
    subst hi
    refine wpOp_now rfl rfl ?_
    refine Lib.wp_append_run _ _ _ _ _ rfl _ _ rfl rfl _ _ hrun ?_
    refine ⟨fun h => (nomatch (show (false : Bool) = true from h)), ?_⟩
    try simp only [Act.put, List.getElem_toArray, List.getElem_cons_zero, List.getElem_cons_succ, List.setIfInBounds_toArray, List.set_cons_zero, List.set_cons_succ]
    have q2 := Blk.kept (show Blk _ _ _ _ from Blk.below' (show Blk _ _ _ _ from h2) T0) hgr (by simp [Value.ownBlock])
    have p2 := q2.cell 0
    have f2 := q2.frozen 0
    simp only [List.getElem?_toArray, List.getElem?_cons_zero] at p2
    refine wpAnyG_all (rs := [10]) (by kernel_rfl) (by simp) ?_
    intro i hi
    simp only [List.mem_cons, List.not_mem_nil, or_false] at hi
    subst hi
    refine wpOp_now rfl rfl ?_
    go_simp
    refine ⟨fun h => (nomatch (show (false : Bool) = true from h)), ?_⟩
    refine wpAnyG_done (by kernel_rfl) ?_ _
    have ez : (s.extract x.1 x.2.1).size = x.2.1 - x.1 := by rw [ByteArray.size_extract]; omega
    rw [ez] at hown2
    have hl0 := T0.size
    have q1 := Blk.kept (show Blk _ _ _ _ from Blk.below' (show Blk _ _ _ _ from h1) T0) hgr (by simp [Value.ownBlock])
    have hcs : ∀ r, (Value.slice (some ⟨w.heap.size + 1, 0, none⟩) m s.size).ownBlock = some r → r = w.heap.size + 1 := fun r e => by simpa [Value.ownBlock] using e.symm
    have hrc := row_cells own0
    have hk1 := kpM_grown (B := w.heap.size) (m := V.heap.size + 2) hgr (fun r e => by have e1 := hcs r e; exact ⟨by omega, by omega, hrc r e⟩) (by omega)
    have hk0 : KpM w.heap.size (V.heap.size + 2) X X0 := kpM_below T0 (by omega)
    have hk2 : KpM w.heap.size (V.heap.size + 2) w2 (w2.setCell ⟨w.heap.size + 2, 0, none⟩ (.slice (some ⟨w.heap.size + 1, 0, none⟩) (m + (x.2.1 - x.1)) s.size)) := kpM_set (by omega) (by omega) _ _
    have hk := kpM_t hk0 (kpM_t hk1 hk2)
    refine ⟨?_, ⟨hk.1, hk.2.1⟩, ⟨⟨⟨⟨?_, ?_⟩, ?_⟩, ⟨?_, ?_⟩⟩, HS.out.2.2⟩⟩
    · exact (kf_below T0).trans ((KeepsFrom.of_grownBy hgr (fun j e => by have := hcs j e; omega)).trans (kf_set _ _))
    · exact q1.other (by omega) 0 _
    · rw [HS.out.1, ByteArray.size_append, HS.out.2.1, ez]
      have := q2.set 0 (.slice (some ⟨w.heap.size + 1, 0, none⟩) (m + (x.2.1 - x.1)) s.size)
      simp only [List.setIfInBounds_toArray, List.set_cons_zero] at this
      exact this
    · rw [HS.out.1, ByteArray.size_append, HS.out.2.1, ez, strCells_app]
      exact own_same hown2 (fun g e => Below.heap_setCell _ _ _ _ (by have e2 : g = w.heap.size + 1 := by simpa [Value.ownBlock] using e.symm
                                                                      dsimp only; omega))
    · exact ((h4.1.trans (T0.mono h4.1.size)).grown hgr (by omega) (fun r e => by have := hcs r e; omega)).setCell (p := ⟨w.heap.size + 2, 0, none⟩) (by dsimp only; omega) _
    · have := hgr.size; simp; omega
  case done =>
    rintro D X hD ⟨⟨⟨⟨h1, h2⟩, h3⟩, h4⟩, h5⟩ hK
    have co := h2.cell
    have hcv := conv_own rfl h3
    have hB2 := h4.1.trans (belowK_b (w := w) (Nat.le_refl _) X D _ (.deferred none) (by omega) hK rfl rfl)
    obtain ⟨res, hres⟩ : ∃ r, catR s (revL s) = r := ⟨_, rfl⟩
    rw [hres] at co hcv
    have HR := Lib.hid hres
    clear h1 h2 h3 h5 hres
    gi_wp2
    refine ⟨by simp, .inl ⟨_, _, rfl, run_takeDeferred (w := X) hK, ?_⟩⟩
    refine ⟨.string res, ?_, by rw [HR.out], hB2⟩
    simp [results, Try.f19, go_sem]
theorem rev_any (s : ByteArray) (hs : s.size ≤ 1048576) (w : World) :
    Calls Try.prog 19 #[.string s] w fun e w' => e = .returned (.string (catR s (revL s))) ∧ Below w.heap.size w w' := callsIn_wide.1 (rev_in s hs w)
end Go.Proofs.Ytnbhdgbhmcbeoaa
