/- What the iterator of runes.Back tells its caller: the pieces from the last one on. -/
import Derived.Test.YtgpnheaefagfiaaSeqB
import Derived.Test.YtgpnheaefagfiaaBef
import Derived.Test.YtgpnheaefagfiaaArM
namespace Go.Proofs.Ytgpnheaefagfiaa
set_option linter.unusedVariables false
set_option linter.unusedSimpArgs false
open Go Go.RowKit Go.Shelf
set_option maxRecDepth 100000
attribute [local go_sem] Oper.semAt_some

theorem posG_inj (s : ByteArray) (i j : Nat) (hi : i ≤ s.size) (hj : j ≤ s.size) (h : posG s i = posG s j) : i = j := by
  by_cases h1 : i < s.size
  · by_cases h2 : j < s.size
    · rw [posG_cons s i h1, posG_cons s j h2] at h; exact (List.cons.inj h).1
    · rw [posG_cons s i h1, posG_end s j (by omega)] at h; cases h
  · by_cases h2 : j < s.size
    · rw [posG_end s i (by omega), posG_cons s j h2] at h; cases h
    · omega

theorem posG_tail (s : ByteArray) : ∀ i, ∀ (a : List Nat) (p : Nat) (b : List Nat), posG s i = a ++ p :: b → p :: b = posG s p ∧ b = posG s (p + wd s p) ∧ p < s.size := by
  apply posG_ind s
  · intro i hi a p b h; rw [posG_end s i hi] at h; cases a <;> cases h
  · intro i hi ih a p b h
    cases a with
    | nil =>
      rw [posG_cons s i hi] at h
      obtain ⟨rfl, rfl⟩ := List.cons.inj h
      exact ⟨(posG_cons s i hi).symm, rfl, hi⟩
    | cons x a =>
      rw [posG_cons s i hi] at h
      exact ih a p b (List.cons.inj h).2

theorem isF_head2 (s : ByteArray) (n i m : Nat) (hn : n ≤ s.size) (hm : i + m ≤ n) (h1 : 1 ≤ m) (h : isF s i m = true) : isF (s.extract 0 n) i m = true := by
  have hz := size_head s n hn
  match m, h, hm, h1 with
  | 1, h, hm, _ => rw [isF1] at h ⊢; rw [bt_head s n i hn (by omega)]; exact h
  | 2, h, hm, _ => rw [isF2] at h; rw [isF2, hz]; obtain ⟨a, b, c, d, e⟩ := h; rw [bt_head s n i hn (by omega), bt_head s n (i + 1) hn (by omega)]; exact ⟨a, b, by omega, d, e⟩
  | 3, h, hm, _ =>
    rw [isF3] at h; rw [isF3, hz]
    obtain ⟨a, b, c, d, e, f, g, j, k, l⟩ := h
    rw [bt_head s n i hn (by omega), bt_head s n (i + 1) hn (by omega), bt_head s n (i + 2) hn (by omega)]
    exact ⟨a, b, by omega, d, e, by omega, g, j, k, l⟩
  | 4, h, hm, _ =>
    rw [isF4] at h; rw [isF4, hz]
    obtain ⟨a, b, c, d, e, f, g, j, f2, g2, j2, k, l⟩ := h
    rw [bt_head s n i hn (by omega), bt_head s n (i + 1) hn (by omega), bt_head s n (i + 2) hn (by omega), bt_head s n (i + 3) hn (by omega)]
    exact ⟨a, b, by omega, d, e, by omega, g, j, by omega, g2, j2, k, l⟩
  | m + 5, h, _, _ => simp [isF] at h

theorem len_head (s : ByteArray) (n i : Nat) (hn : n ≤ s.size) (h0 : lenN s i ≠ 0) (hi : i < s.size) (hm : i + lenN s i ≤ n) : lenN (s.extract 0 n) i = lenN s i := by
  have hz := size_head s n hn
  rcases five s i hi with ⟨hF, hl, _⟩ | ⟨hF, hl, _⟩ | ⟨hF, hl, _⟩ | ⟨hF, hl, _⟩ | ⟨hl, _⟩
  · rw [hl] at hm ⊢; exact lenN_of_1 _ _ (by omega) (isF_head2 s n i 1 hn hm (by omega) hF)
  · rw [hl] at hm ⊢; exact lenN_of_2 _ _ (isF_head2 s n i 2 hn hm (by omega) hF)
  · rw [hl] at hm ⊢; exact lenN_of_3 _ _ (isF_head2 s n i 3 hn hm (by omega) hF)
  · rw [hl] at hm ⊢; exact lenN_of_4 _ _ (isF_head2 s n i 4 hn hm (by omega) hF)
  · exact absurd hl h0

/-- The piece that ends at a boundary. -/
theorem bnd_prev (s : ByteArray) (pre : List Nat) (n : Nat) (h : posns s = pre ++ posG s n) (h0 : 0 < n) (hn : n ≤ s.size) :
    ∃ l p, pre = l ++ [p] ∧ p + wd s p = n ∧ p < s.size ∧ posns s = l ++ posG s p ∧ pcV (s.extract 0 n) (lp (s.extract 0 n)) = pcV s p := by
  have hne : pre ≠ [] := by
    rintro rfl
    rw [List.nil_append, posns_G] at h
    have := posG_inj s 0 n (by omega) hn h
    omega
  obtain ⟨l, p, rfl⟩ : ∃ l p, pre = l ++ [p] := ⟨pre.dropLast, pre.getLast hne, (List.dropLast_concat_getLast hne).symm⟩
  have h2 : posG s 0 = l ++ p :: posG s n := by rw [← posns_G, h]; simp
  obtain ⟨t1, t2, t3⟩ := posG_tail s 0 l p _ h2
  have hw := posG_inj s n (p + wd s p) hn (wd_fits s p t3) t2
  refine ⟨l, p, rfl, hw.symm, t3, by rw [posns_G, h2, t1], ?_⟩
  cases hb : bk s p with
  | false =>
    have hl := (bk_not s p).1 hb
    have hwd : wd s p = lenN s p := by unfold wd; rw [if_neg hl]
    have hlh := len_head s n p hn hl t3 (by omega)
    exact (pc_form s n p (lenN s p) hn (by omega) (by omega) hlh).symm
  | true =>
    have hl := (bk_iff s p).1 hb
    obtain ⟨hr, hw1⟩ := bk_rn s p hb
    rw [← pc_broken s n hn h0 ?_]
    · simp only [pcV, pcC, hb, hr, hw1]
      rw [show ((n : Int) - 1) = (p : Int) by omega]
      rfl
    · intro m hm1 hm4 hmn he
      have hf := head_form s n (n - m) hn (by omega) (by omega)
      have hlen : lenN s (n - m) = m := by rw [hf.1, he]
      have hq := form_pos s (n - m) (by omega) (by omega)
      have hp : p ∈ posns s := by rw [posns_G, h2]; simp
      have hwm : wd s (n - m) = m := by unfold wd; rw [if_neg (by omega)]; exact hlen
      by_cases e : n - m = p
      · rw [e] at hlen; omega
      · have := posG_apart s 0 _ hq p hp (by omega)
        omega

/-- What the body of a round keeps for the iterator from the last piece on. -/
def KpC (B : Nat) (W W' : World) : Prop := KpB B W W' ∧ ∀ (b : Nat) (cs : Array Value), W.heap[b]? = some (Obj.cells cs 24 (0, 0)) → W'.heap[b]? = some (Obj.cells cs 24 (0, 0))
theorem kpC_t {B : Nat} {X Y Z : World} (h : KpC B X Y) (k : KpC B Y Z) : KpC B X Z := ⟨kpB_t h.1 k.1, fun b cs hb => k.2 b cs (h.2 b cs hb)⟩
theorem kpC_b {B : Nat} {w : World} (hB : B < w.heap.size) (W : World) (l : Nat) (o o' : Obj) (hl : w.heap.size ≤ l) (h : W.heap[l]? = some o) (ho : o.isCells = false) (hw : o.isWalk = false) : KpC B W (W.putObj l o') := by
  refine ⟨kpB_b hB W l o o' hl h ho hw, fun b cs hb => ?_⟩
  rw [World.putObj_heap_other (fun e => ?_)]
  · exact hb
  · rw [e, h] at hb; cases hb; cases ho

/-- Between two rounds: n is the place that is reached. -/
def RelK (s : ByteArray) (B : Nat) (J : List (Pos s) → World → Prop) (v : Value) (wr : World) : Prop :=
  ∃ (l : List Nat) (xs : List (Pos s)) (n : Nat), v = .int .i64 n ∧ n ≤ s.size ∧ posns s = l ++ posG s n ∧ xs.map (·.1) = (posG s n).reverse ∧ Boxed wr B 9 (.string s) ∧ J xs wr

set_option maxHeartbeats 2000000 in
theorem back1 (l B : Nat) (s : ByteArray) (hs : s.size ≤ 281474976710656) (J Jx : List (Pos s) → World → Prop) (W : World)
    (hJ : AbidesFrom W.heap.size J) (hBx : Boxed W B 9 (.string s))
    (hY : ∀ pre x W1, J pre W1 → pre.length < s.size → YieldAt Fence.wide 9 Try.prog l (pcA s x.1) W1 fun e W' =>
      (e = .returned (.bool true) ∧ J (pre ++ [x]) W' ∧ KpC B W1 W') ∨ (e = .returned (.bool false) ∧ Jx (pre ++ [x]) W'))
    (h0 : J [] W) :
    CallsIn Fence.wide 10 Try.prog 73 #[.func (.yield l) #[] #[], .pointer (some ⟨B, 0, none⟩)] W fun e W' => (∃ v, e = .returned v) ∧
      ((∃ xs, xs.map (·.1) = (posns s).reverse ∧ J xs W') ∨ (∃ pre, pre.map (·.1) <+: (posns s).reverse ∧ Jx pre W')) := by
  have hc := hBx.cell
  refine callsIn_of_wp Try.func73 rfl trivial ?_ rfl
  simp only [Try.ntmps73, List.size_toArray, List.length_cons, List.length_nil, Nat.reduceAdd, Nat.reduceSub, Array.replicate_succ, Array.replicate_zero, List.push_toArray, List.append_toArray, List.nil_append, List.cons_append]
  gi_wp2
  gi_loopw [3] (fun v wr => RelK s B J v wr) (fun v _ => (intOf v).toNat)
  case atStart =>
    exact ⟨posns s, [], s.size, rfl, Nat.le_refl _, by rw [posG_end s s.size (Nat.le_refl _), List.append_nil], by rw [posG_end s s.size (Nat.le_refl _)]; rfl, hBx, h0⟩
  case round =>
    clear hc
    obtain ⟨pl, xs, n, rfl, hn, hpp, hxs, hbx, hj⟩ := hrel
    have hF : ∀ f, Fence.wide.fn f := fun _ => trivial
    have hc := hbx.cell
    by_cases hn0 : 0 < n
    · obtain ⟨l2, p, rfl, hpw, hps, hpp2, hpv⟩ := bnd_prev s pl n hpp hn0 hn
      have hw1 := wd_pos s p
      have hlen : xs.length < s.size := by
        have h1 := posns_len s
        have h2 : xs.length = (posG s n).length := by rw [← List.length_map (f := (·.1)), hxs, List.length_reverse]
        rw [hpp, List.length_append, List.length_append] at h1
        simp at h1; omega
      have hxs2 : (xs ++ [(⟨p, hps⟩ : Pos s)]).map (·.1) = (posG s p).reverse := by
        rw [List.map_append, hxs, posG_cons s p hps, hpw]; simp
      have cBf := before_any s n hn0 hn hs
      rw [hpv] at cBf
      simp only [pcV, pcC] at cBf
      have HY : Hid (∀ P2, Below wr.heap.size wr P2 →
          YieldAt Fence.wide 9 Try.prog l (pcA s p) (P2.alloc (.cells #[.int .i64 p, .int .i64 (wd s p : Nat), .int .i32 (rn s p : Nat), .bool (bk s p)] 24)) fun e W' =>
            (e = .returned (.bool true) ∧ (RelK s B J (.int .i64 p) W' ∧ W'.cell? ⟨P2.heap.size, 0, none⟩ = some (.int .i64 p))) ∨ (e = .returned (.bool false) ∧ ∃ pre, pre.map (·.1) <+: (posns s).reverse ∧ Jx pre W')) := by
        apply Lib.hid
        intro P2 hb
        have hb2 : Below wr.heap.size wr (P2.alloc (.cells #[.int .i64 p, .int .i64 (wd s p : Nat), .int .i32 (rn s p : Nat), .bool (bk s p)] 24)) := hb.alloc hb.size _
        refine (hY xs ⟨p, hps⟩ _ (hJ _ _ _ none hj (grown_none hb2) (by simp)) hlen).mono ?_
        rintro e W' (⟨he, hJ', hk⟩ | ⟨he, hJx⟩)
        · refine .inl ⟨he, ⟨l2, xs ++ [⟨p, hps⟩], p, rfl, by omega, hpp2, hxs2, hk.1.2.trans ((hb2.block _ hbx.lt).trans hbx), hJ'⟩, ?_⟩
          have := hk.2 P2.heap.size _ (World.alloc_heap_new P2 _)
          simp [World.cell?, this]
        · refine .inr ⟨he, xs ++ [⟨p, hps⟩], ?_, hJx⟩
          rw [hxs2, hpp2, List.reverse_append]
          exact List.prefix_append _ _
      simp only [pcA] at HY
      have HB := Lib.hid hpw
      clear hY hpp hpp2 hxs hxs2 hj hpv hpw
      gi_wp2_with (first | (gi_at_call 69; refine (callsIn_wide.2 (cBf _)).mono ?_; rintro e P2 ⟨rfl, hb⟩; obtain ⟨hc2, hf2⟩ := bcell hb; have hz2 := hb.size; obtain ⟨fn, tmps, assign, body, hy, hR⟩ := HY.out P2 hb))
      refine hR.mono ?_
      rintro e W' (⟨rfl, hJ', hce⟩ | ⟨rfl, hJx'⟩)
      · gi_wp2
        exact ⟨hJ', by simp [intOf]; have := HB.out; omega⟩
      · gi_wp2
        refine bodyPost_ret (results_none rfl _ _ _) rfl ?_
        exact ⟨⟨_, rfl⟩, .inr hJx'⟩
    · obtain rfl : n = 0 := by omega
      rw [← posns_G] at hxs
      have HX := Lib.hid hxs
      clear hxs hpp
      gi_wp2
      go_end0
      exact ⟨⟨_, rfl⟩, .inl ⟨xs, HX.out, hj⟩⟩

theorem back_any (s : ByteArray) (w : World) :
    Calls Try.prog 21 #[.string s] w fun e w' => e = .returned (.func (.func 73) #[] #[.pointer (some ⟨w.heap.size, 0, none⟩)]) ∧ w' = w.alloc (.cells #[.string s] 9) := by
  go_enter Try.func21, Try.ntmps21
  go_wp2
  go_ret
  exact ⟨rfl, rfl⟩

theorem back_stops (s : ByteArray) (hs : s.size ≤ 281474976710656) (B : Nat) (w : World) (hB : Boxed w B 9 (.string s)) :
    SeqStopsK Fence.wide 10 Try.prog 73 #[.pointer (some ⟨B, 0, none⟩)] (fun x : Pos s => pcA s x.1) (KpC B) (fun xs => xs.map (·.1) = (posns s).reverse) (fun pre => pre.map (·.1) <+: (posns s).reverse) s.size w :=
  fun l J Jx W hW hJ _ hY h0 => back1 l B s hs J Jx W hJ ((hW.block B hB.lt).trans hB) hY h0
end Go.Proofs.Ytgpnheaefagfiaa
