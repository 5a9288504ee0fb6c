/- Stage 31: May, the program's and the document's. -/
import Derived.Test.YtdlbopaefkbmhaaCh0
import Derived.Lib.Hide
namespace Go.Proofs.Ytdlbopaefkbmhaa
set_option linter.unusedVariables false
set_option linter.unusedSimpArgs false
open Go Go.RowKit Go.Shelf
set_option maxRecDepth 100000

def c20 : Nat := 4697254411347427328
def okT (x : Nat) : Bool := finB x && !flt x 0 && !fgt x c20
def okD (x : Nat) : Bool := (fgt x 0 || feq x 0) && (flt x c20 || feq x c20)
theorem rd_0 : rd 0 = .number false 0 (-1074) := by decide
theorem rd_c20 : rd c20 = .number false 4503599627370496 (-32) := by decide
theorem ok_same (x : Nat) : okT x = okD x := by
  have n0 : fnan 0 = false := by unfold fnan; rw [rd_0]; rfl
  have nc : fnan c20 = false := by unfold fnan; rw [rd_c20]; rfl
  have k0 : fkey 0 = 0 := by unfold fkey; rw [rd_0]; rfl
  have kc : fkey c20 < 2 ^ KB ∧ -2 ^ KB < fkey c20 := by
    unfold fkey; rw [rd_c20]; exact ⟨(signed_bd rd_c20).2, (signed_bd rd_c20).1⟩
  have hp : (0 : Int) < 2 ^ KB := Int.pow_pos (by decide)
  have hf : (finB x = true ∧ fnan x = false) ∨ finB x = false ∧ (fnan x = true ∨ fnan x = false ∧ (fkey x = 2 ^ KB ∨ fkey x = -2 ^ KB)) := by
    unfold finB fnan fkey
    cases rd x with
    | number => exact .inl ⟨rfl, rfl⟩
    | nan => exact .inr ⟨rfl, .inl rfl⟩
    | infinity s => refine .inr ⟨rfl, .inr ⟨rfl, ?_⟩⟩; cases s <;> simp
  unfold okT okD flt fgt feq
  generalize (2 : Int) ^ KB = p at *
  have e0 := ford_cases x 0
  have ec := ford_cases x c20
  rw [n0, k0] at e0
  rw [nc] at ec
  rcases hf with ⟨hf, hn⟩ | ⟨hf, hn | ⟨hn, hk⟩⟩
  · rw [hf]
    rw [hn] at e0 ec
    rcases e0 with ⟨_, h | h⟩ | ⟨_, _, ⟨_, e⟩ | ⟨_, e⟩ | ⟨_, e⟩⟩ <;> first | (cases h; done) | skip
    all_goals (rcases ec with ⟨_, h | h⟩ | ⟨_, _, ⟨_, f⟩ | ⟨_, f⟩ | ⟨_, f⟩⟩ <;> first | (cases h; done) | (rw [e, f]; rfl))
  · rw [hf]
    rw [hn] at e0 ec
    rcases e0 with ⟨e, _⟩ | ⟨h, _⟩
    · rw [e]; rfl
    · cases h
  · rw [hf]
    rw [hn] at e0 ec
    rcases e0 with ⟨_, h | h⟩ | ⟨_, _, ⟨q, e⟩ | ⟨q, e⟩ | ⟨q, e⟩⟩ <;> first | (cases h; done) | skip
    all_goals (rcases ec with ⟨_, h | h⟩ | ⟨_, _, ⟨r, f⟩ | ⟨r, f⟩ | ⟨r, f⟩⟩ <;> first | (cases h; done) | (rw [e, f]; rfl) | (exfalso; rcases hk with hk | hk <;> omega))
/-- May a tempo be? -/
def mayB (b s k r l : Nat) : Bool := [b, s, k, r, l].all okT && fgt b 0 && fgt l 0
theorem may_no {b s k r l x : Nat} (hm : x ∈ [b, s, k, r, l]) (h : okT x = false) : mayB b s k r l = false := by
  unfold mayB
  have : [b, s, k, r, l].all okT = false := List.all_eq_false.2 ⟨x, hm, by rw [h]; simp⟩
  rw [this]; rfl
theorem take_all {l : List Nat} {k : Nat} {x : Nat} (h : ∀ y ∈ l.take k, okT y = true) (hk : l[k]? = some x) (hx : okT x = true) : ∀ y ∈ l.take (k + 1), okT y = true := by
  intro y hy
  rw [List.take_add_one, hk] at hy
  rcases List.mem_append.1 hy with h1 | h1
  · exact h y h1
  · simp at h1; rw [h1]; exact hx
theorem flo_ret {a b : Bool} (h : a = b) : Ending.returned (.bool a) = .returned (.bool b) := by rw [h]

def MayI (b s k r l : Nat) (w : World) (i : Value) (wr : World) : Prop := ∃ j : Nat, i = .int .i64 j ∧ j ≤ 5 ∧ (∀ x ∈ [b, s, k, r, l].take j, okT x = true) ∧ Below w.heap.size w wr ∧
  Blk wr w.heap.size #[.float .f64 b, .float .f64 s, .float .f64 k, .float .f64 r, .float .f64 l] 42 ∧ Blk wr (w.heap.size + 1) #[.float .f64 b, .float .f64 s, .float .f64 k, .float .f64 r, .float .f64 l] 23

set_option maxHeartbeats 4000000 in
theorem may_any (b s k r l : Nat) (w : World) : Calls Try.prog 13 #[.agg #[.float .f64 b, .float .f64 s, .float .f64 k, .float .f64 r, .float .f64 l]] w fun e w' => e = .returned (.bool (mayB b s k r l)) ∧ Below w.heap.size w w' := by
  go_enter Try.func13, Try.ntmps13
  go_wp2
  go_loopw [17] (MayI b s k r l w) (fun i _ => 5 - (intOf i).toNat)
  case atStart =>
    refine ⟨0, rfl, by omega, by simp, ?_, ?_, ?_⟩
    · exact ((Below.refl _ _).alloc (Nat.le_refl _) _).alloc (by simp) _
    · exact (Blk.new w _ _).alloc _
    · have := Blk.new (w.alloc (.cells #[.float .f64 b, .float .f64 s, .float .f64 k, .float .f64 r, .float .f64 l] 42)) #[.float .f64 b, .float .f64 s, .float .f64 k, .float .f64 r, .float .f64 l] 23
      simpa using this
  case round =>
    obtain ⟨j, rfl, hj, hall, hB, hb1, hb2⟩ := hrel
    by_cases hlt : j < 5
    · obtain ⟨x, hx⟩ : ∃ x, [b, s, k, r, l][j]? = some x := ⟨_, List.getElem?_eq_getElem (by simpa using hlt)⟩
      have hc : wr.cell? ⟨w.heap.size + 1, j, none⟩ = some (.float .f64 x) := by
        rw [hb2.cell j]
        have : (#[Value.float .f64 b, .float .f64 s, .float .f64 k, .float .f64 r, .float .f64 l] : Array Value) = ([b, s, k, r, l].map (Value.float .f64)).toArray := rfl
        rw [this, List.getElem?_toArray, List.getElem?_map, hx]; rfl
      have hxm : x ∈ [b, s, k, r, l] := List.mem_of_getElem? hx
      obtain ⟨ok, hok⟩ : ∃ o, okT x = o := ⟨_, rfl⟩
      have hok' := hok
      unfold okT flt fgt ford at hok
      have cF := fun W => finite_any x W
      obtain ⟨f1, hf1⟩ : ∃ o, finB x = o := ⟨_, rfl⟩
      obtain ⟨f2, hf2⟩ : ∃ o, (FloatKind.f64.format.order x 0 == some .lt) = o := ⟨_, rfl⟩
      obtain ⟨f3, hf3⟩ : ∃ o, (FloatKind.f64.format.order x 4697254411347427328 == some .gt) = o := ⟨_, rfl⟩
      have hok2 : (f1 && !f2 && !f3) = ok := by rw [← hok, ← hf1, ← hf2, ← hf3]; rfl
      rw [hf1] at cF
      have HX := Lib.hid (And.intro hB (And.intro hb1 (And.intro hb2 (And.intro hall (And.intro hx (And.intro hok' hok2))))))
      clear hB hb1 hb2 hall hx hok hok' hok2 hf1
      cases f1 <;> cases f2 <;> cases f3
      all_goals
        go_wp2_with (go_at_call 16; refine (cF _).mono ?_; rintro e w' ⟨rfl, rfl⟩)
        first
        | (go_roundw
           case rel =>
             obtain ⟨hB, hb1, hb2, hall, hx, hok', hok2⟩ := HX.out
             exact ⟨j + 1, by go_num, by omega, take_all hall hx (by rw [hok', ← hok2]; rfl), ⟨hB.os, hB.tape, hB.output, hB.size, hB.block⟩, hb1, hb2⟩
           case measure => simp [intOf]; omega)
        | (obtain ⟨hB, hb1, hb2, hall, hx, hok', hok2⟩ := HX.out
           go_ret
           exact ⟨flo_ret (may_no hxm (by rw [hok', ← hok2]; rfl)).symm, ⟨hB.os, hB.tape, hB.output, hB.size, hB.block⟩⟩)
    · obtain rfl : j = 5 := by omega
      have hall2 : [b, s, k, r, l].all okT = true := List.all_eq_true.2 fun x hx => hall x (by simpa using hx)
      obtain ⟨g1, hg1⟩ : ∃ o, (FloatKind.f64.format.order b 0 == some .gt) = o := ⟨_, rfl⟩
      obtain ⟨g2, hg2⟩ : ∃ o, (FloatKind.f64.format.order l 0 == some .gt) = o := ⟨_, rfl⟩
      have hm : mayB b s k r l = (g1 && g2) := by unfold mayB fgt ford; rw [hall2]; show (FloatKind.f64.format.order b 0 == some .gt && _) = _; rw [hg1]; show (g1 && (FloatKind.f64.format.order l 0 == some .gt)) = _; rw [hg2]
      have HM := Lib.hid hm
      have c0 := hb1.cell 0
      have c4 := hb1.cell 4
      simp only [List.getElem?_toArray, List.getElem?_cons_succ, List.getElem?_cons_zero] at c0 c4
      clear hb1 hb2 hall hall2 hm
      cases g1 <;> cases g2
      all_goals
        go_wp2
        go_ret
        exact ⟨flo_ret HM.out.symm, hB⟩

def MayJ (b s k r l : Nat) (w : World) (i : Value) (wr : World) : Prop := ∃ j : Nat, i = .int .i64 j ∧ j ≤ 5 ∧ (∀ x ∈ [b, s, k, r, l].take j, okT x = true) ∧ Below w.heap.size w wr ∧
  Blk wr w.heap.size #[.float .f64 b, .float .f64 s, .float .f64 k, .float .f64 r, .float .f64 l] 42
end Go.Proofs.Ytdlbopaefkbmhaa
