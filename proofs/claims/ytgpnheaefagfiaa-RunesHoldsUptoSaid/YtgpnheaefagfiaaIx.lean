/- What Index answers: the program's and the document's. -/
import Derived.Test.YtgpnheaefagfiaaSeqB
import Derived.Test.YtgpnheaefagfiaaEnds
namespace Go.Proofs.Ytgpnheaefagfiaa
set_option linter.unusedVariables false
set_option linter.unusedSimpArgs false
open Go Go.RowKit Go.Shelf
set_option maxRecDepth 100000
attribute [local go_sem] Oper.semAt_some

def hit (s : ByteArray) (r : Int) (i : Nat) : Prop := bk s i = false ∧ (rn s i : Int) = r
instance (s : ByteArray) (r : Int) (i : Nat) : Decidable (hit s r i) := by unfold hit; exact inferInstance
/-- The place of a rune's first form, among pieces. -/
def idxL (s : ByteArray) (r : Int) : List Nat → Int
  | [] => -1
  | i :: l => if hit s r i then i else idxL s r l
def idxZ (s : ByteArray) (r : Int) : Int := idxL s r (posns s)
theorem idxL_no (s : ByteArray) (r : Int) : ∀ l : List Nat, (∀ i ∈ l, ¬ hit s r i) → idxL s r l = -1
  | [], _ => rfl
  | i :: l, h => by rw [idxL, if_neg (h i (by simp))]; exact idxL_no s r l (fun j hj => h j (by simp [hj]))
theorem idxL_yes (s : ByteArray) (r : Int) (x : Nat) (rest : List Nat) (hx : hit s r x) : ∀ l : List Nat, (∀ i ∈ l, ¬ hit s r i) → idxL s r (l ++ x :: rest) = x
  | [], _ => by rw [List.nil_append, idxL, if_pos hx]
  | i :: l, h => by rw [List.cons_append, idxL, if_neg (h i (by simp))]; exact idxL_yes s r x rest hx l (fun j hj => h j (by simp [hj]))

def lst {s : ByteArray} (l : List (Pos s)) : Int := match l.getLast? with | some x => (x.1 : Int) | none => 0
theorem lst_snoc {s : ByteArray} (l : List (Pos s)) (x : Pos s) : lst (l ++ [x]) = x.1 := by simp [lst]

def noHit (s : ByteArray) (r : Int) (l : List (Pos s)) : Prop := ∀ x ∈ l, ¬ hit s r x.1
def oneHit (s : ByteArray) (r : Int) (l : List (Pos s)) : Prop := ∃ pre x, l = pre ++ [x] ∧ noHit s r pre ∧ hit s r x.1
theorem idx_none {s : ByteArray} {r : Int} {xs : List (Pos s)} (h : xs.map (·.1) = posns s) (hx : noHit s r xs) : idxZ s r = -1 := by
  unfold idxZ
  rw [← h]
  exact idxL_no s r _ (fun i hi => by obtain ⟨x, hm, rfl⟩ := List.mem_map.1 hi; exact hx x hm)
theorem idx_one {s : ByteArray} {r : Int} {l : List (Pos s)} (h : l.map (·.1) <+: posns s) (hx : oneHit s r l) : idxZ s r = lst l := by
  obtain ⟨pre, x, rfl, h1, h2⟩ := hx
  obtain ⟨rest, hr⟩ := h
  unfold idxZ
  rw [← hr, List.map_append, List.map_singleton, List.append_assoc, lst_snoc]
  exact idxL_yes s r x.1 rest h2 _ (fun i hi => by obtain ⟨y, hm, rfl⟩ := List.mem_map.1 hi; exact h1 y hm)
theorem noHit_snoc {s : ByteArray} {r : Int} {l : List (Pos s)} {x : Pos s} (h : noHit s r l) (hx : ¬ hit s r x.1) : noHit s r (l ++ [x]) := by
  intro y hy
  rcases List.mem_append.1 hy with h' | h'
  · exact h y h'
  · rw [List.mem_singleton.1 h']; exact hx

set_option maxHeartbeats 1000000 in
theorem index_in (s : ByteArray) (r : Int) (hs : s.size ≤ 9223372036854775807) (w : World) :
    CallsIn Fence.wide 11 Try.prog 51 #[.string s, .int .i32 r] w fun e w' => e = .returned (.int .i64 (idxZ s r)) ∧ Below w.heap.size w w' := by
  refine callsIn_of_wp_marks Try.func51 rfl trivial ?_ rfl
  simp only [Try.ntmps51, List.size_toArray, List.length_cons, List.length_nil, Nat.reduceAdd, Nat.reduceSub, Array.replicate_succ, Array.replicate_zero, List.push_toArray, List.append_toArray, List.nil_append, List.cons_append]
  have hF : ∀ f, Fence.wide.fn f := fun _ => trivial
  gi_wp2_with (gi_at_call 20; refine (callsIn_wide.2 (pieces_any _ _)).mono ?_; rintro e w' ⟨rfl, rfl⟩)
  have b0 := ((Boxed.new w 21 (.int .i32 r)).alloc (.cells #[.int .i64 0] 3)).alloc (.cells #[.string s] 9)
  have b1 := (Boxed.new (w.alloc (.cells #[.int .i32 r] 21)) 3 (.int .i64 0)).alloc (.cells #[.string s] 9)
  have b2 := Boxed.new ((w.alloc (.cells #[.int .i32 r] 21)).alloc (.cells #[.int .i64 0] 3)) 9 (.string s)
  simp only [World.size_alloc] at b1 b2
  have hB0 : Below w.heap.size w (((w.alloc (.cells #[.int .i32 r] 21)).alloc (.cells #[.int .i64 0] 3)).alloc (.cells #[.string s] 9)) := (((Below.refl _ w).alloc (Nat.le_refl _) _).alloc (by simp) _).alloc (by simp; omega) _
  have hsz : (((w.alloc (.cells #[.int .i32 r] 21)).alloc (.cells #[.int .i64 0] 3)).alloc (.cells #[.string s] 9)).heap.size = w.heap.size + 3 := by simp
  obtain ⟨W0, hW0⟩ : ∃ W0, (((w.alloc (.cells #[.int .i32 r] 21)).alloc (.cells #[.int .i64 0] 3)).alloc (.cells #[.string s] 9)) = W0 := ⟨_, rfl⟩
  rw [hW0] at b0 b1 b2 hB0 hsz ⊢
  clear hW0
  refine range_pieces 5 s hs (w.heap.size + 1 + 1) b2 rfl
    (fun pre W => ((Boxed W w.heap.size 21 (.int .i32 r) ∧ Boxed W (w.heap.size + 1) 3 (.int .i64 0)) ∧ noHit s r pre) ∧ Below w.heap.size w W)
    (fun c pre W => ((Boxed W (w.heap.size + 1) 3 (.int .i64 (lst pre))) ∧ c = .ret ∧ oneHit s r pre) ∧ Below w.heap.size w W)
    (OwnFrom.and (OwnFrom.and (OwnFrom.and (Own.from (boxed_own _ _ _) _) (Own.from (boxed_own _ _ _) _)) (fun _ _ _ _ hs _ _ => hs)) (ownFrom_below (Nat.le_refl _) (by omega)))
    (fun c => OwnFrom.and (OwnFrom.and (Own.from (boxed_own _ _ _) _) (fun _ _ _ _ hs _ _ => hs)) (ownFrom_below (Nat.le_refl _) (by omega))) ⟨⟨⟨b0, b1⟩, fun x hx => by cases hx⟩, hB0⟩ ?assign ?body ?done ?stop
  case assign =>
    intro l x W K hK
    simp only [pcC] at hK ⊢
    gi_wp2
    exact hK
  case body =>
    rintro l pre x Bx W ⟨⟨⟨h0, h1⟩, hno⟩, hB⟩ hle hbx hlen
    rw [hsz] at hle
    have hc0 := h0.cell
    have hc1 := h1.cell
    have hf1 := h1.frozen
    obtain ⟨p0, p1, p2, p3⟩ := pcell hbx
    simp only [pcC]
    by_cases hr : (rn s x.1 : Int) = r
    · have hrb : ((rn s x.1 : Int) == r) = true := by rw [beq_iff_eq]; exact hr
      cases hbk : bk s x.1 with
      | true =>
        have HX : Hid (¬ hit s r x.1) := Lib.hid (by unfold hit; rw [hbk]; simp)
        rw [hbk] at p3
        have HO := Lib.hid hno; clear hno hbk
        have HR := Lib.hid hr; clear hr
        gi_wp2
        exact ⟨(KeepsOthers.refl _).from _, ⟨KeepsWalks.refl _, rfl⟩, ⟨⟨h0, h1⟩, noHit_snoc HO.out HX.out⟩, hB⟩
      | false =>
        have HX : Hid (hit s r x.1) := Lib.hid ⟨hbk, hr⟩
        rw [hbk] at p3
        have HO := Lib.hid hno; clear hno hbk
        have HR := Lib.hid hr; clear hr
        gi_wp2
        refine ⟨(KeepsOthers.setCell _ _ _).from _, ⟨?_, rfl, pre, x, rfl, HO.out, HX.out⟩, hB.setCell (p := ⟨w.heap.size + 1, 0, none⟩) (by dsimp only; omega) _⟩
        rw [lst_snoc]; exact h1.set _
    · have hrb : ((rn s x.1 : Int) == r) = false := by rw [beq_eq_false_iff_ne]; exact hr
      have HX : Hid (¬ hit s r x.1) := Lib.hid (by unfold hit; rintro ⟨_, h⟩; exact hr h)
      have HO := Lib.hid hno; clear hno
      have HR := Lib.hid hr; clear hr
      gi_wp2
      exact ⟨(KeepsOthers.refl _).from _, ⟨KeepsWalks.refl _, rfl⟩, ⟨⟨h0, h1⟩, noHit_snoc HO.out HX.out⟩, hB⟩
  case done =>
    rintro D xs W hD hxs ⟨⟨⟨h0, h1⟩, hno⟩, hB⟩ hK
    have ha := idx_none hxs hno
    clear hno hxs
    have hc1 := h1.cell
    have hf1 := h1.frozen
    have HA := Lib.hid ha; clear ha
    gi_wp2
    have h2 := h1.set (.int .i64 (-1))
    have hK2 : (W.setCell ⟨w.heap.size + 1, 0, none⟩ (.int .i64 (-1))).heap[D]? = some (.deferred (some [])) := by rw [Below.heap_setCell _ _ _ _ (by dsimp only; omega)]; exact hK
    have hB2 := hB.setCell (p := ⟨w.heap.size + 1, 0, none⟩) (by dsimp only; omega) (.int .i64 (-1))
    obtain ⟨W2, hW2⟩ : ∃ W2, W.setCell ⟨w.heap.size + 1, 0, none⟩ (.int .i64 (-1)) = W2 := ⟨_, rfl⟩
    rw [hW2] at h2 hK2 hB2 ⊢
    have e1 : (W2.putObj D (.deferred none)).cell? ⟨w.heap.size + 1, 0, none⟩ = some (.int .i64 (-1)) := (World.cell?_of_block (w := W2) (World.putObj_heap_other (by dsimp only; omega))).trans h2.cell
    refine ⟨by simp, .inl ⟨_, _, rfl, run_takeDeferred (w := W2) hK2, ?_⟩⟩
    refine ⟨.int .i64 (-1), ?_, by rw [HA.out], hB2.trans (belowK_b (w := w) (Nat.le_refl _) W2 D _ _ (by omega) hK2 rfl rfl)⟩
    simp [results, Try.f51, go_sem, e1]
  case stop =>
    rintro D c pre W hD hp ⟨⟨h1, rfl, hx⟩, hB⟩ hK
    have ha := idx_one hp hx
    clear hx hp
    have hc1 := h1.cell
    obtain ⟨q, hq⟩ : ∃ q, lst pre = q := ⟨_, rfl⟩
    rw [hq] at ha hc1
    have HA := Lib.hid ha; clear ha hq h1
    gi_wp2
    have e1 : (W.putObj D (.deferred none)).cell? ⟨w.heap.size + 1, 0, none⟩ = some (.int .i64 q) := (World.cell?_of_block (w := W) (World.putObj_heap_other (by dsimp only; omega))).trans hc1
    refine ⟨by simp, .inl ⟨_, _, rfl, run_takeDeferred (w := W) hK, ?_⟩⟩
    refine ⟨.int .i64 q, ?_, by rw [HA.out], hB.trans (belowK_b (w := w) (Nat.le_refl _) W D _ _ (by omega) hK rfl rfl)⟩
    simp [results, Try.f51, go_sem, e1]

theorem index_any (s : ByteArray) (r : Int) (hs : s.size ≤ 9223372036854775807) (w : World) :
    Calls Try.prog 51 #[.string s, .int .i32 r] w fun e w' => e = .returned (.int .i64 (idxZ s r)) ∧ Below w.heap.size w w' := callsIn_wide.1 (index_in s r hs w)

def IxRel (s : ByteArray) (r : Int) (w : World) (b0 : Nat) (pv i : Value) (wr : World) : Prop :=
  ∃ k : Nat, i = .int .i64 k ∧ k ≤ (posns s).length ∧ (∀ j ∈ (posns s).take k, ¬ hit s r j) ∧ wr.ownsRow b0 24 4 pv (posns s).length (pcs s (posns s)) ∧ Below w.heap.size w wr

set_option maxHeartbeats 1000000 in
theorem indexR_any (s : ByteArray) (r : Int) (hs : s.size ≤ 1048576) (w : World) :
    Calls Try.prog 52 #[.string s, .int .i32 r] w fun e w' => e = .returned (.int .i64 (idxZ s r)) ∧ Below w.heap.size w w' := by
  have hpl := posns_len s
  have cP := piecesR_any s hs
  go_enter Try.func52, Try.ntmps52
  go_wp2_with (first | (go_at_call 19; refine (cP _).mono ?_; rintro e w1 ⟨pv, rfl, hown, hb1⟩; obtain ⟨o, cap, rfl, ho⟩ := own_slice hown))
  obtain ⟨n, hn⟩ : ∃ n, (posns s).length = n := ⟨_, rfl⟩
  have HN := Lib.hid hn
  have HW := Lib.hid hown
  simp only [hn] at hpl ho ⊢
  clear hown hn
  go_loopw [10] (fun i wr => IxRel s r w w.heap.size (.slice o n cap) i wr) (fun i _ => n - (intOf i).toNat)
  case atStart => exact ⟨0, rfl, by omega, fun j hj => by simp at hj, by rw [HN.out]; have := HW.out; rw [HN.out] at this; exact this, hb1⟩
  case round =>
    clear hb1 HW
    obtain ⟨k, rfl, hk, hno, hp, hB⟩ := hrel
    rw [HN.out] at hk hp
    by_cases hlt : k < n
    · obtain ⟨g, rfl⟩ := ho (by omega)
      obtain ⟨p, hpk⟩ : ∃ p, (posns s)[k]? = some p := ⟨_, List.getElem?_eq_getElem (by rw [HN.out]; exact hlt)⟩
      obtain ⟨c0, c1, c2, c3⟩ := nth_cells hp HN.out k hlt p hpk
      have hs1 : k < (posns s).length := by rw [HN.out]; exact hlt
      have hpe : (posns s)[k] = p := by rw [List.getElem?_eq_getElem hs1] at hpk; exact Option.some.inj hpk
      have hsn : (posns s).take (k + 1) = (posns s).take k ++ [p] := by rw [List.take_succ_eq_append_getElem hs1, hpe]
      have hdr : posns s = (posns s).take k ++ p :: (posns s).drop (k + 1) := by rw [← hpe, List.getElem_cons_drop, List.take_append_drop]
      have HS := Lib.hid hsn
      have HD := Lib.hid hdr
      have HP := Lib.hid hp
      have HO := Lib.hid hno
      clear hpk hsn hdr hpe hs1 hp hno
      by_cases hh : hit s r p
      · have hi : idxZ s r = p := by unfold idxZ; rw [HD.out]; exact idxL_yes s r p _ hh _ HO.out
        obtain ⟨h1, h2⟩ := hh
        have HI := Lib.hid hi
        have hrb : ((rn s p : Int) == r) = true := by rw [beq_iff_eq]; exact h2
        rw [h1] at c3
        clear h1 h2 hi
        go_wp2
        go_ret
        exact ⟨by rw [HI.out]; rfl, hB.alloc hB.size _⟩
      · have HH := Lib.hid hh
        cases hbk : bk s p with
        | true =>
          rw [hbk] at c3
          clear hh hbk
          go_wp2
          go_roundw
          case rel =>
            refine ⟨k + 1, by go_num, by rw [HN.out]; omega, fun j hj => ?_, by rw [HN.out]; exact HP.out.alloc _, hB.alloc hB.size _⟩
            rw [HS.out] at hj
            rcases List.mem_append.1 hj with h | h
            · exact HO.out j h
            · rw [List.mem_singleton.1 h]; exact HH.out
          case measure => simp [intOf]; omega
        | false =>
          have hne : (rn s p : Int) ≠ r := fun h => hh ⟨hbk, h⟩
          have hrb : ((rn s p : Int) == r) = false := by rw [beq_eq_false_iff_ne]; exact hne
          rw [hbk] at c3
          clear hh hbk hne
          go_wp2
          go_roundw
          case rel =>
            refine ⟨k + 1, by go_num, by rw [HN.out]; omega, fun j hj => ?_, by rw [HN.out]; exact HP.out.alloc _, hB.alloc hB.size _⟩
            rw [HS.out] at hj
            rcases List.mem_append.1 hj with h | h
            · exact HO.out j h
            · rw [List.mem_singleton.1 h]; exact HH.out
          case measure => simp [intOf]; omega
    · have hi : idxZ s r = -1 := by
        unfold idxZ
        rw [List.take_of_length_le (by rw [HN.out]; omega)] at hno
        exact idxL_no s r _ hno
      have HI := Lib.hid hi
      clear hno hp hi
      go_wp2
      go_ret
      exact ⟨by rw [HI.out]; rfl, hB⟩
end Go.Proofs.Ytgpnheaefagfiaa
