/- Layer 3: how a text's letters are written: the document's Case. -/
import Derived.Test.YtfnngcecfjlfeaaLt
import Derived.Test.YtfnngcecfjlfeaaCd4
namespace Go.Proofs.Ytfnngcecfjlfeaa
set_option linter.unusedVariables false
set_option linter.unusedSimpArgs false
open Go Go.RowKit Go.Shelf
set_option maxRecDepth 100000

theorem kind_not {r : Int} (h : leB r = false) : (kindZ r == 1) = false := by
  rw [beq_eq_false_iff_ne]
  by_cases h0 : r < 0 ∨ (55296 ≤ r ∧ r ≤ 57343) ∨ 1114111 < r
  · rw [kind_none h0]; decide
  · rw [kind_other h0 h]
    clear h h0
    unfold kindN
    (repeat' split) <;> decide
theorem bk_letter {s : ByteArray} {i : Nat} (h : leB (rn s i) = true) : bk s i = false := by
  cases hb : bk s i with
  | false => rfl
  | true =>
    rw [(bk_rn s i hb).1] at h
    exact absurd h (by decide)

theorem ofD_t (i wx r : Int) (w : World) :
    Calls Try.prog 27 #[.agg #[.int .i64 i, .int .i64 wx, .int .i32 r, .bool true]] w fun e w' => e = .returned (.int .i64 11) ∧ Below w.heap.size w w' := by
  go_enter Try.func27, Try.ntmps27
  go_wp2
  go_ret
  exact ⟨rfl, (Below.refl _ _).alloc (Nat.le_refl _) _⟩
theorem ofD_f (i wx r : Int) (w : World) :
    Calls Try.prog 27 #[.agg #[.int .i64 i, .int .i64 wx, .int .i32 r, .bool false]] w fun e w' => e = .returned (.int .i64 (kindZ r)) ∧ Below w.heap.size w w' := by
  have cK := kindD_any r
  go_enter Try.func27, Try.ntmps27
  go_wp2_with (go_at_call 35; refine (cK _).mono ?_; rintro e w' ⟨rfl, rfl⟩)
  go_ret
  exact ⟨rfl, (Below.refl _ _).alloc (Nat.le_refl _) _⟩

/-- Great, small letters; is the first one great? -/
def csStep (s : ByteArray) (st : Nat × Nat × Bool) (i : Nat) : Nat × Nat × Bool :=
  if leB (rn s i) = true then
    (if grB (rn s i) = true then (st.1 + 1, st.2.1, if st.1 + st.2.1 = 0 then true else st.2.2) else (st.1, st.2.1 + 1, if st.1 + st.2.1 = 0 then false else st.2.2))
  else st
def csR (s : ByteArray) (l : List Nat) : Nat × Nat × Bool := l.foldl (csStep s) (0, 0, false)
theorem csR_snoc (s : ByteArray) (l : List Nat) (i : Nat) : csR s (l ++ [i]) = csStep s (csR s l) i := by simp [csR]
theorem cs_no {s : ByteArray} {i : Nat} (h : leB (rn s i) = false) (st : Nat × Nat × Bool) : csStep s st i = st := by unfold csStep; rw [if_neg (by rw [h]; simp)]
theorem cs_g0 {s : ByteArray} {i : Nat} (h : leB (rn s i) = true) (hg : grB (rn s i) = true) (f : Bool) : csStep s (0, 0, f) i = (1, 0, true) := by unfold csStep; rw [if_pos h, if_pos hg]; rfl
theorem cs_g {s : ByteArray} {i : Nat} (h : leB (rn s i) = true) (hg : grB (rn s i) = true) {G S : Nat} (h0 : G + S ≠ 0) (f : Bool) : csStep s (G, S, f) i = (G + 1, S, f) := by unfold csStep; rw [if_pos h, if_pos hg, if_neg h0]
theorem cs_s0 {s : ByteArray} {i : Nat} (h : leB (rn s i) = true) (hg : grB (rn s i) = false) (f : Bool) : csStep s (0, 0, f) i = (0, 1, false) := by unfold csStep; rw [if_pos h, if_neg (by rw [hg]; simp)]; rfl
theorem cs_s {s : ByteArray} {i : Nat} (h : leB (rn s i) = true) (hg : grB (rn s i) = false) {G S : Nat} (h0 : G + S ≠ 0) (f : Bool) : csStep s (G, S, f) i = (G, S + 1, f) := by unfold csStep; rw [if_pos h, if_neg (by rw [hg]; simp), if_neg h0]
theorem cs_fold (s : ByteArray) : ∀ (l : List Nat) (st : Nat × Nat × Bool), (lpos s l).foldl (csStep s) st = l.foldl (csStep s) st := by
  intro l
  induction l with
  | nil => intro st; rfl
  | cons i l ih =>
    intro st
    cases h : leB (rn s i) with
    | true => rw [show lpos s (i :: l) = i :: lpos s l by simp [lpos, h], List.foldl_cons, List.foldl_cons, ih]
    | false => rw [show lpos s (i :: l) = lpos s l by simp [lpos, h], List.foldl_cons, ih, cs_no h]
theorem csR_eq (s : ByteArray) (l : List Nat) : csR s (lpos s l) = csR s l := cs_fold s l _
theorem cs_one (s : ByteArray) (st : Nat × Nat × Bool) (i : Nat) : (csStep s st i).1 + (csStep s st i).2.1 ≤ st.1 + st.2.1 + 1 := by
  unfold csStep
  split
  · split <;> simp <;> omega
  · omega
theorem cs_le (s : ByteArray) : ∀ (l : List Nat) (st : Nat × Nat × Bool), (l.foldl (csStep s) st).1 + (l.foldl (csStep s) st).2.1 ≤ st.1 + st.2.1 + l.length := by
  intro l
  induction l with
  | nil => intro st; exact Nat.le_refl _
  | cons i l ih =>
    intro st
    have h1 := ih (csStep s st i)
    have h2 := cs_one s st i
    rw [List.foldl_cons, List.length_cons]; omega
theorem csR_le (s : ByteArray) (l : List Nat) : (csR s l).1 + (csR s l).2.1 ≤ l.length := by
  have := cs_le s l (0, 0, false)
  simpa [csR] using this
def caseZ (st : Nat × Nat × Bool) : Int :=
  if st.1 + st.2.1 = 0 then 0 else if st.1 = 0 then 1 else if st.2.1 = 0 then 2 else if st.2.2 = true ∧ st.1 = 1 then 3 else 4

def CdRel (s : ByteArray) (n : Nat) (v : Value) (w : World) (g sm f i : Value) (wr : World) : Prop :=
  ∃ (k G S : Nat) (F : Bool), i = .int .i64 k ∧ k ≤ n ∧ csR s ((posns s).take k) = (G, S, F) ∧ g = .int .i64 G ∧ sm = .int .i64 S ∧ f = .bool F ∧ wr.ownsRow w.heap.size 32 4 v n (pcs s (posns s)) ∧ Below w.heap.size w wr

set_option maxHeartbeats 4000000 in
theorem caseD_any (s : ByteArray) (hs : s.size ≤ 2147483647) (w : World) :
    Calls Try.prog 29 #[.string s] w fun e w' => e = .returned (.int .i64 (caseZ (csR s (posns s)))) ∧ Below w.heap.size w w' := by
  have hpl := posns_len s
  have cP := piecesD_any s hs
  obtain ⟨Z, hZ⟩ : ∃ Z, caseZ (csR s (posns s)) = Z := ⟨_, rfl⟩
  have HZ := Lib.hid hZ
  rw [hZ]
  clear hZ
  go_enter Try.func29, Try.ntmps29
  go_wp2_with (first | (go_at_call 26; refine (cP _).mono ?_; rintro e w1 ⟨pv, rfl, hown, hb1⟩; obtain ⟨o, cap, rfl, ho⟩ := own_slice hown))
  obtain ⟨n, hn⟩ : ∃ n, (posns s).length = n := ⟨_, rfl⟩
  have HN := Lib.hid hn
  simp only [hn] at hown hpl ho ⊢
  clear hn
  go_loopw [4, 5, 6, 7] (fun g sm f i wr => CdRel s n (.slice o n cap) w g sm f i wr) (fun _ _ _ i _ => n - (intOf i).toNat)
  case atStart => exact ⟨0, 0, 0, false, rfl, Nat.zero_le _, rfl, rfl, rfl, rfl, hown, hb1⟩
  case round =>
    clear hown hb1
    obtain ⟨k, G, S, F, rfl, hk, hcs, rfl, rfl, rfl, hp, hB⟩ := hrel
    by_cases hlt : k < n
    · obtain ⟨gp, rfl⟩ := ho (by omega)
      obtain ⟨p, hpk⟩ : ∃ p, (posns s)[k]? = some p := ⟨_, List.getElem?_eq_getElem (by rw [HN.out]; exact hlt)⟩
      obtain ⟨d0, d1, d2, d3⟩ := nth_cells hp HN.out k hlt p hpk
      have hlti : (k : Int) < (n : Int) := by omega
      have hle2 := csR_le s ((posns s).take k)
      rw [hcs, List.length_take] at hle2
      have hGS : G + S ≤ k := by simp at hle2; omega
      have htk : csR s ((posns s).take (k + 1)) = csStep s (G, S, F) p := by rw [take_next hpk, csR_snoc, hcs]
      have HPK := Lib.hid hpk
      clear hpk hcs hle2
      cases hle : leB (rn s p) with
      | false =>
        rw [cs_no hle] at htk
        have HT := Lib.hid htk
        have hkn := kind_not hle
        clear htk hle
        cases hbk : bk s p with
        | true =>
          rw [hbk] at d3
          clear hbk
          go_wp2_with (first | (go_at_call 27; refine (ofD_t _ _ _ _).mono ?_; rintro e w2 ⟨rfl, hb2⟩))
          go_roundw
          case rel => exact ⟨k + 1, G, S, F, by go_num, by omega, HT.out, rfl, rfl, rfl, own_below hp hb2, hB.trans (hb2.mono hB.size)⟩
          case measure => simp [intOf]; omega
        | false =>
          rw [hbk] at d3
          clear hbk
          obtain ⟨K, hK⟩ : ∃ K, kindZ (rn s p) = K := ⟨_, rfl⟩
          have cO := ofD_f p (wd s p : Nat) (rn s p : Nat)
          rw [hK] at cO hkn
          clear hK
          go_wp2_with (first | (go_at_call 27; refine (cO _).mono ?_; rintro e w2 ⟨rfl, hb2⟩))
          go_roundw
          case rel => exact ⟨k + 1, G, S, F, by go_num, by omega, HT.out, rfl, rfl, rfl, own_below hp hb2, hB.trans (hb2.mono hB.size)⟩
          case measure => simp [intOf]; omega
      | true =>
        have hbk := bk_letter hle
        rw [hbk] at d3
        have cO := ofD_f p (wd s p : Nat) (rn s p : Nat)
        rw [kind_letter hle] at cO
        have cG := greatD_any (rn s p)
        cases hg : grB (rn s p) with
        | true =>
          rw [hg] at cG
          by_cases h0 : G + S = 0
          · obtain rfl : G = 0 := by omega
            obtain rfl : S = 0 := by omega
            rw [cs_g0 hle hg] at htk
            have HT := Lib.hid htk
            clear htk hle hg hbk
            go_wp2_with (first | (go_at_call 27; refine (cO _).mono ?_; rintro e w2 ⟨rfl, hb2⟩; have hp2 := own_below hp hb2; obtain ⟨x0, x1, x2, x3⟩ := nth_cells hp2 HN.out k hlt p HPK.out) | (go_at_call 37; refine (cG _).mono ?_; rintro e w' ⟨rfl, rfl⟩))
            go_roundw
            case rel => exact ⟨k + 1, 1, 0, true, by go_num, by omega, HT.out, by go_num, by go_num, rfl, hp2, hB.trans (hb2.mono hB.size)⟩
            case measure => simp [intOf]; omega
          · rw [cs_g hle hg h0] at htk
            have HT := Lib.hid htk
            have h0b : (((G : Int) + (S : Int)) == 0) = false := by rw [beq_eq_false_iff_ne]; omega
            clear htk hle hg hbk
            go_wp2_with (first | (go_at_call 27; refine (cO _).mono ?_; rintro e w2 ⟨rfl, hb2⟩; have hp2 := own_below hp hb2; obtain ⟨x0, x1, x2, x3⟩ := nth_cells hp2 HN.out k hlt p HPK.out) | (go_at_call 37; refine (cG _).mono ?_; rintro e w' ⟨rfl, rfl⟩))
            go_roundw
            case rel => exact ⟨k + 1, G + 1, S, F, by go_num, by omega, HT.out, by go_num, by go_num, rfl, hp2, hB.trans (hb2.mono hB.size)⟩
            case measure => simp [intOf]; omega
        | false =>
          rw [hg] at cG
          by_cases h0 : G + S = 0
          · obtain rfl : G = 0 := by omega
            obtain rfl : S = 0 := by omega
            rw [cs_s0 hle hg] at htk
            have HT := Lib.hid htk
            clear htk hle hg hbk
            go_wp2_with (first | (go_at_call 27; refine (cO _).mono ?_; rintro e w2 ⟨rfl, hb2⟩; have hp2 := own_below hp hb2; obtain ⟨x0, x1, x2, x3⟩ := nth_cells hp2 HN.out k hlt p HPK.out) | (go_at_call 37; refine (cG _).mono ?_; rintro e w' ⟨rfl, rfl⟩))
            go_roundw
            case rel => exact ⟨k + 1, 0, 1, false, by go_num, by omega, HT.out, by go_num, by go_num, rfl, hp2, hB.trans (hb2.mono hB.size)⟩
            case measure => simp [intOf]; omega
          · rw [cs_s hle hg h0] at htk
            have HT := Lib.hid htk
            have h0b : (((G : Int) + (S : Int)) == 0) = false := by rw [beq_eq_false_iff_ne]; omega
            clear htk hle hg hbk
            go_wp2_with (first | (go_at_call 27; refine (cO _).mono ?_; rintro e w2 ⟨rfl, hb2⟩; have hp2 := own_below hp hb2; obtain ⟨x0, x1, x2, x3⟩ := nth_cells hp2 HN.out k hlt p HPK.out) | (go_at_call 37; refine (cG _).mono ?_; rintro e w' ⟨rfl, rfl⟩))
            go_roundw
            case rel => exact ⟨k + 1, G, S + 1, F, by go_num, by omega, HT.out, by go_num, by go_num, rfl, hp2, hB.trans (hb2.mono hB.size)⟩
            case measure => simp [intOf]; omega
    · have hkn : k = n := by omega
      subst hkn
      rw [← HN.out, List.take_length] at hcs
      have hGS := csR_le s (posns s)
      rw [hcs, HN.out] at hGS
      have HC := Lib.hid hcs
      clear hcs ho
      simp only at hGS
      by_cases h1 : G + S = 0
      · obtain rfl : G = 0 := by omega
        obtain rfl : S = 0 := by omega
        go_wp2
        go_ret
        exact ⟨ret_int (by rw [← HZ.out, HC.out]; rfl), hB⟩
      · have h1b : (((G : Int) + (S : Int)) == 0) = false := by rw [beq_eq_false_iff_ne]; omega
        by_cases h2 : G = 0
        · subst h2
          have h1c : ((S : Int) == 0) = false := by rw [beq_eq_false_iff_ne]; omega
          go_wp2
          go_ret
          exact ⟨ret_int (by rw [← HZ.out, HC.out]; simp only [caseZ]; rw [if_neg h1]; rfl), hB⟩
        · have h2b : ((G : Int) == 0) = false := by rw [beq_eq_false_iff_ne]; omega
          by_cases h3 : S = 0
          · subst h3
            go_wp2
            go_ret
            exact ⟨ret_int (by rw [← HZ.out, HC.out]; simp only [caseZ]; rw [if_neg h1, if_neg h2]; rfl), hB⟩
          · have h3b : ((S : Int) == 0) = false := by rw [beq_eq_false_iff_ne]; omega
            cases F with
            | false =>
              go_wp2
              go_ret
              exact ⟨ret_int (by rw [← HZ.out, HC.out]; simp only [caseZ]; rw [if_neg h1, if_neg h2, if_neg h3]; rfl), hB⟩
            | true =>
              by_cases h4 : G = 1
              · subst h4
                go_wp2
                go_ret
                exact ⟨ret_int (by rw [← HZ.out, HC.out]; simp only [caseZ]; rw [if_neg h1, if_neg h2, if_neg h3]; rfl), hB⟩
              · have h4b : ((G : Int) == 1) = false := by rw [beq_eq_false_iff_ne]; omega
                go_wp2
                go_ret
                exact ⟨ret_int (by rw [← HZ.out, HC.out]; simp only [caseZ]; rw [if_neg h1, if_neg h2, if_neg h3, if_neg (by simp [h4])]), hB⟩
end Go.Proofs.Ytfnngcecfjlfeaa
