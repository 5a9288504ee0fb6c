/- Stage 31: Merge, the document's: the walk. -/
import Derived.Test.YtieaeicpmibjkaaCj0
import Derived.Test.YtieaeicpmibjkaaChw
namespace Go.Proofs.Ytieaeicpmibjkaa
set_option linter.unusedVariables false
set_option linter.unusedSimpArgs false
open Go Go.RowKit Go.Shelf
set_option maxRecDepth 100000

theorem own_freeG {w : World} {base n sz g c : Nat} {e : TypeId} {xs : List Value} (h : w.ownsRow base e sz (.slice (some ⟨g, 0, none⟩) n c) n xs) (o : Nat) : w.frozen? ⟨g, o, none⟩ = false := by
  rcases h.2 with ⟨e, _⟩ | ⟨g', c', cur, e, _, hg, _⟩
  · cases e
  · simp only [Value.slice.injEq, Option.some.injEq, Addr.mk.injEq, and_true, true_and] at e
    obtain ⟨rfl, rfl⟩ := e
    simp [World.frozen?, hg]
theorem uncons {α : Type} {l : List α} {n : Nat} (h : n + 1 ≤ l.length) : ∃ a r, l = a :: r ∧ n ≤ r.length := by
  cases l with
  | nil => simp at h
  | cons a r => exact ⟨a, r, rfl, by simpa using h⟩
theorem set_app {α : Type} {A R : List α} {p : Nat} (h : A.length = p) (j : Nat) (u : α) : (A ++ R).set (p + j) u = A ++ R.set j u := by
  subst h
  rw [List.set_append_right _ _ (by omega)]
  congr 2; omega
theorem set_app0 {α : Type} {A R : List α} {p : Nat} (h : A.length = p) (u : α) : (A ++ R).set p u = A ++ R.set 0 u := by
  simpa using set_app h 0 u
theorem own_put8 {X : World} {base n g c q : Nat} {e : TypeId} {ys : List Value} (u0 u1 u2 u3 u4 u5 u6 u7 : Value) (h : X.ownsRow base e 8 (.slice (some ⟨g, 0, none⟩) n c) n ys) (hq : q < n) :
    ((((((((X.setCell ⟨g, q * 8, none⟩ u0).setCell ⟨g, q * 8 + 1, none⟩ u1).setCell ⟨g, q * 8 + 2, none⟩ u2).setCell ⟨g, q * 8 + 3, none⟩ u3).setCell ⟨g, q * 8 + 4, none⟩ u4).setCell ⟨g, q * 8 + 5, none⟩ u5).setCell ⟨g, q * 8 + 6, none⟩ u6).setCell ⟨g, q * 8 + 7, none⟩ u7).ownsRow base e 8 (.slice (some ⟨g, 0, none⟩) n c) n (ys.take (q * 8) ++ [u0, u1, u2, u3, u4, u5, u6, u7] ++ ys.drop (q * 8 + 8)) ∧
    X.grownBy ((((((((X.setCell ⟨g, q * 8, none⟩ u0).setCell ⟨g, q * 8 + 1, none⟩ u1).setCell ⟨g, q * 8 + 2, none⟩ u2).setCell ⟨g, q * 8 + 3, none⟩ u3).setCell ⟨g, q * 8 + 4, none⟩ u4).setCell ⟨g, q * 8 + 5, none⟩ u5).setCell ⟨g, q * 8 + 6, none⟩ u6).setCell ⟨g, q * 8 + 7, none⟩ u7) (some g) := by
  have s0 := h.stored (q * 8) u0
  have s1 := s0.1.stored (q * 8 + 1) u1
  have s2 := s1.1.stored (q * 8 + 2) u2
  have s3 := s2.1.stored (q * 8 + 3) u3
  have s4 := s3.1.stored (q * 8 + 4) u4
  have s5 := s4.1.stored (q * 8 + 5) u5
  have s6 := s5.1.stored (q * 8 + 6) u6
  have s7 := s6.1.stored (q * 8 + 7) u7
  refine ⟨?_, grownBy_trans' (grownBy_trans' (grownBy_trans' (grownBy_trans' (grownBy_trans' (grownBy_trans' (grownBy_trans' s0.2 s1.2) s2.2) s3.2) s4.2) s5.2) s6.2) s7.2⟩
  have hl := h.1
  have hA : (ys.take (q * 8)).length = q * 8 := by rw [List.length_take]; omega
  have hR : 8 ≤ (ys.drop (q * 8)).length := by rw [List.length_drop]; omega
  have hd : ys.drop (q * 8 + 8) = (ys.drop (q * 8)).drop 8 := by rw [List.drop_drop]
  have he : ys = ys.take (q * 8) ++ ys.drop (q * 8) := (List.take_append_drop _ _).symm
  obtain ⟨A, hAe⟩ : ∃ A, ys.take (q * 8) = A := ⟨_, rfl⟩
  obtain ⟨R0, hRe⟩ : ∃ R, ys.drop (q * 8) = R := ⟨_, rfl⟩
  rw [hAe] at hA he
  rw [hRe] at hR hd he
  rw [hd, hAe]
  obtain ⟨a0, R1, hr0, hR⟩ := uncons hR
  rw [hr0] at he ⊢
  obtain ⟨a1, R2, hr1, hR⟩ := uncons hR
  rw [hr1] at he ⊢
  obtain ⟨a2, R3, hr2, hR⟩ := uncons hR
  rw [hr2] at he ⊢
  obtain ⟨a3, R4, hr3, hR⟩ := uncons hR
  rw [hr3] at he ⊢
  obtain ⟨a4, R5, hr4, hR⟩ := uncons hR
  rw [hr4] at he ⊢
  obtain ⟨a5, R6, hr5, hR⟩ := uncons hR
  rw [hr5] at he ⊢
  obtain ⟨a6, R7, hr6, hR⟩ := uncons hR
  rw [hr6] at he ⊢
  obtain ⟨a7, R8, hr7, hR⟩ := uncons hR
  rw [hr7] at he ⊢
  have h7 := s7.1
  rw [he] at h7
  simp only [set_app hA, set_app0 hA, List.set_cons_succ, List.set_cons_zero] at h7
  simpa using h7

theorem flS_take (L : List Sg) (k : Nat) (hk : k ≤ L.length) : (L.flatMap encS).take (k * 8) = (L.take k).flatMap encS ∧ (L.flatMap encS).drop (k * 8) = (L.drop k).flatMap encS := by
  have e : L.flatMap encS = (L.take k).flatMap encS ++ (L.drop k).flatMap encS := by rw [← List.flatMap_append, List.take_append_drop]
  have hl : ((L.take k).flatMap encS).length = k * 8 := by rw [fl_len encS_len, List.length_take, Nat.min_eq_left hk]
  rw [e, List.take_append_of_le_length (by omega), List.take_of_length_le (by omega), List.drop_append_of_le_length (by omega), List.drop_of_length_le (l := List.flatMap encS (List.take k L)) (by omega)]
  exact ⟨rfl, rfl⟩
theorem encS_one (L : List Sg) : ∀ v ∈ L.flatMap encS, v.oneCell' = true := by
  intro v hv
  obtain ⟨x, _, hx⟩ := List.mem_flatMap.1 hv
  simp only [encS, List.mem_cons, List.not_mem_nil, or_false] at hx
  rcases hx with rfl | rfl | rfl | rfl | rfl | rfl | rfl | rfl <;> rfl
section
variable {P : Program}
theorem own_make {base : Nat} {e dT sT : TypeId} {g n cap k d s : Nat} {L : List Sg} {zs : List Value} {w : World} {p1 : Option Addr} (ty : TypeId) (h : w.ownsRow base e 8 (.slice (some ⟨g, 0, none⟩) (n + 1) cap) (n + 1) (L.flatMap encS ++ zs)) (hz : zs.length = 8) (hL : L.length = n) (hk : k ≤ n) (hp : k < n → p1 = some ⟨g, (k + 1) * 8, none⟩)
    (hu : P.underlying dT = some (.slice e)) (hs : (P.info? e).map (·.size) = some 8) (h1 : ∀ v ∈ zs, v.oneCell' = true) :
    ∃ w' ys, (Builtin.copy_ #[dT, sT] ty #[.slice p1 (n - k) d, .slice (some ⟨g, k * 8, none⟩) (n + 1 - k) s]).run P w = .ok (goInt (n - k : Nat)) w' ∧
      w'.ownsRow base e 8 (.slice (some ⟨g, 0, none⟩) (n + 1) cap) (n + 1) ys ∧ w.grownBy w' (some g) ∧ ys.take (k * 8) = (L.take k).flatMap encS ∧ ys.drop (k * 8 + 8) = (L.drop k).flatMap encS := by
  have hfl := fl_len encS_len L
  by_cases hkn : k < n
  · rw [hp hkn]
    obtain ⟨w', a1, a2, a3⟩ := own_shift (P := P) (sT := sT) (dCap := d) (sCap := s) ty h hkn hu hs (fun v hv => (List.mem_append.1 hv).elim (encS_one L v) (h1 v))
    have hlf : (L.flatMap encS ++ zs).length = n * 8 + 8 := by rw [List.length_append, hfl, hL, hz]
    have l1 : ((L.flatMap encS ++ zs).take ((k + 1) * 8)).length = k * 8 + 8 := by rw [List.length_take, hlf]; omega
    refine ⟨w', _, a1, a2, a3, ?_, ?_⟩
    · rw [List.take_append_of_le_length (by omega), List.take_take, Nat.min_eq_left (by omega), List.take_append_of_le_length (by rw [hfl, hL]; omega)]
      exact (flS_take L k (by omega)).1
    · rw [List.drop_append_of_le_length (by omega), List.drop_of_length_le (l := List.take _ _) (by omega), List.nil_append, List.drop_append_of_le_length (by rw [hfl, hL]; omega), (flS_take L k (by omega)).2, List.take_append_of_le_length (by rw [fl_len encS_len, List.length_drop, hL]; omega), List.take_of_length_le (by rw [fl_len encS_len, List.length_drop, hL]; omega)]
  · obtain rfl : k = n := by omega
    refine ⟨w, _, ?_, h, ⟨rfl, rfl, rfl, Nat.le_refl _, fun _ _ _ => rfl⟩, ?_, ?_⟩
    · rw [Nat.sub_self]
      exact run_copy_zero w dT sT ty e p1 _ 0 d _ s 8 hu hs (by show min _ _ = _; omega)
    · rw [List.take_append_of_le_length (by rw [hfl, hL]; omega)]
      exact (flS_take L k (by omega)).1
    · rw [List.drop_of_length_le (by rw [List.length_append, hfl, hL, hz]; omega), List.drop_of_length_le (by omega)]; rfl
end
/-- Numbers below a voice's own. -/
theorem voiceS_mem {v : Nat} {l : List Nt} {y : Sg} (h : y ∈ voiceS v l) : y.v = v ∧ y.k < l.length ∧ 0 ≤ y.k := by
  unfold voiceS at h
  obtain ⟨p, hp, rfl⟩ := List.mem_map.1 h
  have := List.mem_zipIdx hp
  refine ⟨rfl, ?_, ?_⟩ <;> simp <;> omega
theorem allS_mem {vs : List (List Nt)} {k : Nat} {y : Sg} (h : y ∈ allS (vs.take k)) : y.v < k := by
  unfold allS at h
  obtain ⟨l, hl, hy⟩ := List.mem_flatten.1 h
  obtain ⟨p, hp, rfl⟩ := List.mem_map.1 hl
  have := List.mem_zipIdx hp
  have h2 := (voiceS_mem hy).1
  simp at this
  omega
def MrO (vs : List (List Nt)) (w : World) (i s : Value) (wr : World) : Prop := ∃ (k : Nat) (v : Value) (L : List Sg), i = .int .i64 k ∧ v = s ∧ k ≤ vs.length ∧ L.Perm (allS (vs.take k)) ∧ L.Pairwise (fun x y => ¬ ltS y x) ∧ wr.ownsRow w.heap.size 59 8 v L.length (L.flatMap encS) ∧ Below w.heap.size w wr
def MrI (vs : List (List Nt)) (l : List Nt) (k : Nat) (w : World) (i s : Value) (wr : World) : Prop := ∃ (j : Nat) (v : Value) (L : List Sg), i = .int .i64 j ∧ v = s ∧ j ≤ l.length ∧ L.Perm (allS (vs.take k) ++ voiceS k (l.take j)) ∧ L.Pairwise (fun x y => ¬ ltS y x) ∧ wr.ownsRow w.heap.size 59 8 v L.length (L.flatMap encS) ∧ Below w.heap.size w wr
def MrK (base nb : Nat) (v : Value) (n : Nat) (xs : List Value) (cn cs : Array Value) (w W : World) : Prop := W.ownsRow base 59 8 v n xs ∧ Blk W nb cn 48 ∧ Blk W (nb + 1) cs 59 ∧ Below base w W
theorem MrK.below {base nb n : Nat} {v : Value} {xs : List Value} {cn cs : Array Value} {w W W' : World} (h : MrK base nb v n xs cn cs w W) (hbs : base ≤ W.heap.size) (hb : Below W.heap.size W W') : MrK base nb v n xs cn cs w W' :=
  ⟨own_below h.1 hb, h.2.1.below' hb, h.2.2.1.below' hb, h.2.2.2.trans (hb.mono hbs)⟩

set_option maxHeartbeats 16000000 in
theorem mergeD_any (vs : List (List Nt)) (o : Option Addr) (cap : Nat) (hn : vs.length ≤ 16) (ht : tot vs ≤ 65536) (w : World) (hv : VoicesAt w o vs) :
    Calls Try.prog 27 #[.slice o vs.length cap] w fun e w' => ∃ (v : Value) (L : List Sg), e = .returned v ∧ L.Perm (allS vs) ∧ L.Pairwise (fun x y => ¬ ltS y x) ∧
      w'.ownsRow w.heap.size 59 8 v L.length (L.flatMap encS) ∧ Below w.heap.size w w' := by
  obtain ⟨i0, hi, hz0, hz1, hz2⟩ := info_parts infoSung
  go_enter Try.func27, Try.ntmps27
  go_wp2
  go_loopw [12, 3] (MrO vs w) (fun i _ _ => vs.length - (intOf i).toNat)
  case atStart => exact ⟨0, _, [], rfl, rfl, by omega, by simp [allS], .nil, World.ownsRow_nil _ _ _ _, Below.refl _ _⟩
  case round =>
    obtain ⟨k, out, L, rfl, rfl, hk, hp, hs, hown, hB⟩ := hrel
    by_cases hlt : k < vs.length
    · obtain ⟨l, hl⟩ : ∃ l, vs[k]? = some l := ⟨_, List.getElem?_eq_getElem hlt⟩
      obtain ⟨g, off, ol, cp, rfl, hc0, hr0⟩ := hv k l hl
      have hc : wr.cell? ⟨g, off + k, none⟩ = some (.slice ol l.length cp) := by rw [hB.cell (p := ⟨g, off + k, none⟩) (lt_cell hc0)]; exact hc0
      have htk := tot_take hl
      have hle := tot_le vs (k + 1)
      have hlb : tot (vs.take k) + l.length ≤ 65536 := by omega
      have hl63 : l.length ≤ 65536 := by omega
      have HV := Lib.hid (And.intro hv (And.intro hl (And.intro htk hr0)))
      have hI : MrI vs l k w (.int .i64 0) out wr := ⟨0, _, L, rfl, rfl, by omega, by simpa [voiceS] using hp, hs, hown, hB⟩
      clear hv hl htk hle hr0 hc0 hown hB hp hs
      go_wp2
      go_loopw [19, 3] (MrI vs l k w) (fun j _ _ => l.length - (intOf j).toNat)
      case atStart => exact hI
      case round =>
        clear hI
        obtain ⟨j, out2, M, rfl, rfl, hj, hp, hs, hown, hB⟩ := hrel
        by_cases hlj : j < l.length
        · obtain ⟨x, hx⟩ : ∃ x, l[j]? = some x := ⟨_, List.getElem?_eq_getElem hlj⟩
          obtain ⟨gl, ofl, rfl, hcl⟩ := (HV.out.2.2.2.below encN_len (by decide) hB) j x hx
          have q0 := hcl 0 (by decide)
          have q1 := hcl 1 (by decide)
          have q2 := hcl 2 (by decide)
          have q3 := hcl 3 (by decide)
          have q4 := hcl 4 (by decide)
          have q5 := hcl 5 (by decide)
          clear hcl
          have hvt := voiceS_take (v := k) hx
          obtain ⟨xl, xb, xw, xs, xa, xo⟩ := x
          simp only [encN, List.getElem?_cons_succ, List.getElem?_cons_zero, Nat.add_zero] at q0 q1 q2 q3 q4 q5
          have hML : M.length ≤ 65536 := by
            have h1 := hp.length_eq
            rw [List.length_append, allS_len, voiceS_len, List.length_take] at h1
            omega
          have hkey : ∀ y ∈ M, y.v < (k : Int) ∨ y.v = (k : Int) ∧ y.k < (j : Int) := by
            intro y hy
            rcases List.mem_append.1 (hp.mem_iff.1 hy) with h1 | h1
            · exact .inl (allS_mem h1)
            · have := voiceS_mem h1
              rw [List.length_take] at this
              exact .inr ⟨this.1, by omega⟩
          obtain ⟨n, hnM⟩ : ∃ n, M.length = n := ⟨_, rfl⟩
          obtain ⟨zs, hzs⟩ : ∃ z, M.flatMap encS = z := ⟨_, rfl⟩
          rw [hnM] at hown hML
          rw [hzs] at hown
          obtain ⟨oo, oc, rfl, hoo⟩ := own_slice hown
          have hsz := hB.size
          have hob : ∀ r, (Value.slice oo n oc).ownBlock = some r → r < wr.heap.size := fun r hr => (hown.lt r hr).2
          obtain ⟨nb, hnb⟩ : ∃ z, wr.heap.size = z := ⟨_, rfl⟩
          have K2 : MrK w.heap.size nb (.slice oo n oc) n zs #[.int .i64 xl, .int .i64 xb, .int .i64 xw, .bool xs, .float .f64 xa, .float .f64 xo] #[.int .i64 k, .int .i64 j, .int .i64 xl, .int .i64 xb, .int .i64 xw, .bool xs, .float .f64 xa, .float .f64 xo] w ((wr.alloc (.cells #[.int .i64 xl, .int .i64 xb, .int .i64 xw, .bool xs, .float .f64 xa, .float .f64 xo] 48)).alloc (.cells #[.int .i64 k, .int .i64 j, .int .i64 xl, .int .i64 xb, .int .i64 xw, .bool xs, .float .f64 xa, .float .f64 xo] 59)) :=
            ⟨(hown.alloc _).alloc _, by rw [← hnb]; exact (Blk.new wr #[.int .i64 xl, .int .i64 xb, .int .i64 xw, .bool xs, .float .f64 xa, .float .f64 xo] 48).alloc _, by
              have := Blk.new (wr.alloc (.cells #[.int .i64 xl, .int .i64 xb, .int .i64 xw, .bool xs, .float .f64 xa, .float .f64 xo] 48)) #[.int .i64 k, .int .i64 j, .int .i64 xl, .int .i64 xb, .int .i64 xw, .bool xs, .float .f64 xa, .float .f64 xo] 59
              rw [World.size_alloc, hnb] at this
              exact this, (hB.alloc hsz _).alloc (by simp; omega) _⟩
          rw [hnb] at hob hsz
          have HH := Lib.hid (And.intro hp (And.intro hs (And.intro hvt (And.intro hkey (And.intro hnM (And.intro hzs hob))))))
          have w0 := K2.2.1.cell 0
          have w1 := K2.2.1.cell 1
          have w2 := K2.2.1.cell 2
          have w3 := K2.2.1.cell 3
          have w4 := K2.2.1.cell 4
          have w5 := K2.2.1.cell 5
          simp only [List.getElem?_toArray, List.getElem?_cons_succ, List.getElem?_cons_zero] at w0 w1 w2 w3 w4 w5
          have HK2 := Lib.hid K2
          clear hp hs hvt hkey hnM hzs hown hB hx hob K2
          go_wp2
          have K2 := HK2.out
          obtain ⟨W2, hW2⟩ : ∃ Z, (wr.alloc (.cells #[.int .i64 xl, .int .i64 xb, .int .i64 xw, .bool xs, .float .f64 xa, .float .f64 xo] 48)).alloc (.cells #[.int .i64 k, .int .i64 j, .int .i64 xl, .int .i64 xb, .int .i64 xw, .bool xs, .float .f64 xa, .float .f64 xo] 59) = Z := ⟨_, rfl⟩
          rw [hW2] at K2 w0 w1 w2 w3 w4 w5 ⊢
          clear hW2 HK2
          have hst : ∀ (i : Nat) (y : Sg), n ≤ i → M[i]? = some y → mk xa < mk y.n.at' := fun i y h1 h2 => by
            have := (List.getElem?_eq_some_iff.1 h2).1
            have := HH.out.2.2.2.2.1
            omega
          have H2 := Lib.hid K2
          clear K2 q0 q1 q2 q3 q4 q5
          go_loopw [9] (fun i W3 => ∃ q : Nat, i = .int .i64 q ∧ q ≤ n ∧ (∀ (i : Nat) (y : Sg), q ≤ i → M[i]? = some y → mk xa < mk y.n.at') ∧ Below W2.heap.size W2 W3) (fun i _ => (intOf i).toNat)
          case atStart => exact ⟨n, rfl, by omega, hst, Below.refl _ _⟩
          case round =>
            clear hst
            obtain ⟨q, rfl, hq, hhi, hb⟩ := hrel
            have K3 := H2.out.below H2.out.2.2.2.size hb
            by_cases hq0 : q = 0
            · have e1 : decide ((0 : Int) < (q : Int)) = false := decide_eq_false (by omega)
              have e1n : decide (0 < q) = false := decide_eq_false (by omega)
              have hlow : q = 0 ∨ ∃ y, M[q - 1]? = some y ∧ mk y.n.at' ≤ mk xa := .inl hq0
              clear w0 w1 w2 w3 w4 w5 hq0
              go_wp2_with (fail)
              refine wp_region_noPanic ?_
              refine wp_region_g (S := untilG [] (fun Y => Below wr.heap.size wr Y)) (by kernel_rfl) ?_
              obtain ⟨X0, hX0⟩ : ∃ Y, World.drew wr = Y := ⟨_, rfl⟩
              have T0 : Below wr.heap.size wr X0 := hX0 ▸ (Below.refl wr.heap.size wr).drew
              rw [hX0]
              clear hX0
              refine wpAnyG_all (rs := [0]) (by kernel_rfl) (by simp) ?_
              intro i hi
              simp only [List.mem_cons, List.not_mem_nil, or_false] at hi
              subst hi
              refine wpOp_now rfl rfl ?_
              go_simp
              refine ⟨fun _ => T0, ?_⟩
              try simp only [Act.put, List.getElem_toArray, List.getElem_cons_zero, List.getElem_cons_succ, List.setIfInBounds_toArray, List.set_cons_zero, List.set_cons_succ]
              refine wpAnyG_take [1, 2, 3, 4, 5, 6, 7, 8, 9, 10, 11, 12, 13] (i := 1) (v := (.bool false)) rfl (by kernel_rfl) (by kernel_rfl) (by kernel_rfl) (by kernel_rfl) (by kernel_rfl) (by kernel_rfl) (by kernel_rfl) (by kernel_rfl) (fun _ _ _ h => h) (Or.inl ⟨by rfl, ?hy⟩) T0 ?_
              case hy =>
                intro X hX
                go_simp
              try simp only [Act.put, List.getElem_toArray, List.getElem_cons_zero, List.getElem_cons_succ, List.setIfInBounds_toArray, List.set_cons_zero, List.set_cons_succ]
              refine wpAnyG_all (rs := [2]) (by kernel_rfl) (by simp) ?_
              intro i hi
              simp only [List.mem_cons, List.not_mem_nil, or_false] at hi
              subst hi
              refine wpOp_now rfl rfl ?_
              go_simp
              refine ⟨fun _ => T0, ?_⟩
              try simp only [Act.put, List.getElem_toArray, List.getElem_cons_zero, List.getElem_cons_succ, List.setIfInBounds_toArray, List.set_cons_zero, List.set_cons_succ]
              refine wpAnyG_take [3, 4, 12, 13] (i := 3) (v := undef) rfl (by kernel_rfl) (by kernel_rfl) (by kernel_rfl) (by kernel_rfl) (by kernel_rfl) (by kernel_rfl) (by kernel_rfl) (by kernel_rfl) (fun _ _ _ h => h) (Or.inr ⟨by rfl, rfl⟩) T0 ?_
              try simp only [Act.put, List.getElem_toArray, List.getElem_cons_zero, List.getElem_cons_succ, List.setIfInBounds_toArray, List.set_cons_zero, List.set_cons_succ]
              refine wpAnyG_take [4, 12, 13] (i := 4) (v := undef) rfl (by kernel_rfl) (by kernel_rfl) (by kernel_rfl) (by kernel_rfl) (by kernel_rfl) (by kernel_rfl) (by kernel_rfl) (by kernel_rfl) (fun _ _ _ h => h) (Or.inr ⟨by rfl, rfl⟩) T0 ?_
              try simp only [Act.put, List.getElem_toArray, List.getElem_cons_zero, List.getElem_cons_succ, List.setIfInBounds_toArray, List.set_cons_zero, List.set_cons_succ]
              refine wpAnyG_take [5, 8, 9, 10, 11, 12, 13] (i := 5) (v := undef) rfl (by kernel_rfl) (by kernel_rfl) (by kernel_rfl) (by kernel_rfl) (by kernel_rfl) (by kernel_rfl) (by kernel_rfl) (by kernel_rfl) (fun _ _ _ h => h) (Or.inr ⟨by rfl, rfl⟩) T0 ?_
              try simp only [Act.put, List.getElem_toArray, List.getElem_cons_zero, List.getElem_cons_succ, List.setIfInBounds_toArray, List.set_cons_zero, List.set_cons_succ]
              refine wpAnyG_take [6, 7, 8, 9, 10, 11, 12, 13] (i := 6) (v := undef) rfl (by kernel_rfl) (by kernel_rfl) (by kernel_rfl) (by kernel_rfl) (by kernel_rfl) (by kernel_rfl) (by kernel_rfl) (by kernel_rfl) (fun _ _ _ h => h) (Or.inr ⟨by rfl, rfl⟩) T0 ?_
              try simp only [Act.put, List.getElem_toArray, List.getElem_cons_zero, List.getElem_cons_succ, List.setIfInBounds_toArray, List.set_cons_zero, List.set_cons_succ]
              refine wpAnyG_take [7, 8, 9, 10, 11, 12, 13] (i := 7) (v := undef) rfl (by kernel_rfl) (by kernel_rfl) (by kernel_rfl) (by kernel_rfl) (by kernel_rfl) (by kernel_rfl) (by kernel_rfl) (by kernel_rfl) (fun _ _ _ h => h) (Or.inr ⟨by rfl, rfl⟩) T0 ?_
              try simp only [Act.put, List.getElem_toArray, List.getElem_cons_zero, List.getElem_cons_succ, List.setIfInBounds_toArray, List.set_cons_zero, List.set_cons_succ]
              refine wpAnyG_take [8, 9, 10, 11, 12, 13] (i := 8) (v := undef) rfl (by kernel_rfl) (by kernel_rfl) (by kernel_rfl) (by kernel_rfl) (by kernel_rfl) (by kernel_rfl) (by kernel_rfl) (by kernel_rfl) (fun _ _ _ h => h) (Or.inr ⟨by rfl, rfl⟩) T0 ?_
              try simp only [Act.put, List.getElem_toArray, List.getElem_cons_zero, List.getElem_cons_succ, List.setIfInBounds_toArray, List.set_cons_zero, List.set_cons_succ]
              refine wpAnyG_take [9, 10, 11, 12, 13] (i := 9) (v := undef) rfl (by kernel_rfl) (by kernel_rfl) (by kernel_rfl) (by kernel_rfl) (by kernel_rfl) (by kernel_rfl) (by kernel_rfl) (by kernel_rfl) (fun _ _ _ h => h) (Or.inr ⟨by rfl, rfl⟩) T0 ?_
              try simp only [Act.put, List.getElem_toArray, List.getElem_cons_zero, List.getElem_cons_succ, List.setIfInBounds_toArray, List.set_cons_zero, List.set_cons_succ]
              refine wpAnyG_take [10, 11, 12, 13] (i := 10) (v := undef) rfl (by kernel_rfl) (by kernel_rfl) (by kernel_rfl) (by kernel_rfl) (by kernel_rfl) (by kernel_rfl) (by kernel_rfl) (by kernel_rfl) (fun _ _ _ h => h) (Or.inr ⟨by rfl, rfl⟩) T0 ?_
              try simp only [Act.put, List.getElem_toArray, List.getElem_cons_zero, List.getElem_cons_succ, List.setIfInBounds_toArray, List.set_cons_zero, List.set_cons_succ]
              refine wpAnyG_take [11, 12, 13] (i := 11) (v := undef) rfl (by kernel_rfl) (by kernel_rfl) (by kernel_rfl) (by kernel_rfl) (by kernel_rfl) (by kernel_rfl) (by kernel_rfl) (by kernel_rfl) (fun _ _ _ h => h) (Or.inr ⟨by rfl, rfl⟩) T0 ?_
              try simp only [Act.put, List.getElem_toArray, List.getElem_cons_zero, List.getElem_cons_succ, List.setIfInBounds_toArray, List.set_cons_zero, List.set_cons_succ]
              refine wpAnyG_take [12, 13] (i := 12) (v := undef) rfl (by kernel_rfl) (by kernel_rfl) (by kernel_rfl) (by kernel_rfl) (by kernel_rfl) (by kernel_rfl) (by kernel_rfl) (by kernel_rfl) (fun _ _ _ h => h) (Or.inr ⟨by rfl, rfl⟩) T0 ?_
              try simp only [Act.put, List.getElem_toArray, List.getElem_cons_zero, List.getElem_cons_succ, List.setIfInBounds_toArray, List.set_cons_zero, List.set_cons_succ]
              refine wpAnyG_all (rs := [13]) (by kernel_rfl) (by simp) ?_
              intro i hi
              simp only [List.mem_cons, List.not_mem_nil, or_false] at hi
              subst hi
              refine wpOp_now rfl rfl ?_
              go_simp
              refine ⟨fun _ => T0, ?_⟩
              try simp only [Act.put, List.getElem_toArray, List.getElem_cons_zero, List.getElem_cons_succ, List.setIfInBounds_toArray, List.set_cons_zero, List.set_cons_succ]
              refine wpAnyG_done (by kernel_rfl) ?_ _
              refine NoPanic.normal ?_
              have K3 := K3.below K3.2.2.2.size T0
              obtain ⟨wr, hwr⟩ : ∃ Y, X0 = Y := ⟨_, rfl⟩
              rw [hwr] at K3 ⊢
              have HQ := Lib.hid (And.intro hhi hlow)
              clear hwr T0 hhi hlow hb H2
              have hszb := K3.2.2.2.size
              have hal := (Below.refl wr.heap.size wr).alloc (Nat.le_refl _) (.cells #[.int .i64 0, .int .i64 0, .int .i64 0, .int .i64 0, .int .i64 0, .bool false, .float .f64 0, .float .f64 0] 59)
              have K4 := K3.below hszb hal
              have hnw : (wr.alloc (.cells #[.int .i64 0, .int .i64 0, .int .i64 0, .int .i64 0, .int .i64 0, .bool false, .float .f64 0, .float .f64 0] 59)).heap[wr.heap.size]? = some (.cells #[.int .i64 0, .int .i64 0, .int .i64 0, .int .i64 0, .int .i64 0, .bool false, .float .f64 0, .float .f64 0] 59 (0, 0)) := World.alloc_heap_new wr _
              have HNW := Lib.hid (And.intro hnw (And.intro K3 K4))
              have hsz3 := (show nb + 1 < wr.heap.size from K3.2.2.1.lt)
              clear hal hnw K3 K4
              go_wp2_with (at_builtin; refine wpList_append_own_at _ rfl _ _ 44 rfl w.heap.size 59 i0 (.agg #[.int .i64 0, .int .i64 0, .int .i64 0, .int .i64 0, .int .i64 0, .bool false, .float .f64 0, .float .f64 0]) 8 64 Try.underlying44 hi hz0 hz1 hz2 rfl (by decide) _ _ _ rfl HNW.out.2.2.1 ⟨wr.heap.size, 0, none⟩ 1 1 [.int .i64 0, .int .i64 0, .int .i64 0, .int .i64 0, .int .i64 0, .bool false, .float .f64 0, .float .f64 0] rfl rfl (World.news_of_block (cs := #[.int .i64 0, .int .i64 0, .int .i64 0, .int .i64 0, .int .i64 0, .bool false, .float .f64 0, .float .f64 0]) (t := 59) (fr := (0, 0)) HNW.out.1) (by decide) (by unfold maxLen; omega) (by omega) (by simp; omega) ?_; intro v' w9 hown' hgrow _ hwh)
              have K4 := HNW.out.2.2
              obtain ⟨ao, ac, rfl, hao⟩ := own_slice hown'
              obtain ⟨ga, rfl⟩ := hao (by omega)
              have hgne : ga ≠ nb ∧ ga ≠ nb + 1 := by
                have hwh' : some ga = (Value.slice oo n oc).ownBlock ∨ some ga = some (wr.alloc (.cells #[.int .i64 0, .int .i64 0, .int .i64 0, .int .i64 0, .int .i64 0, .bool false, .float .f64 0, .float .f64 0] 59)).heap.size := hwh
                rcases hwh' with h | h
                · have := HH.out.2.2.2.2.2.2 ga h.symm
                  omega
                · simp at h
                  omega
              have bS9 := K4.2.2.1.kept (show World.grownBy _ w9 _ from hgrow) (fun e => by have := HH.out.2.2.2.2.2.2 (nb + 1) e.symm; omega)
              have hB9 : Below w.heap.size w w9 := K4.2.2.2.grown (show World.grownBy _ w9 _ from hgrow) (by simp; omega) (fun r hr => (K4.1.lt r hr).1)
              have hac : n + 1 ≤ ac := by
                rcases hown'.2 with ⟨e, _⟩ | ⟨g, c, cur, e, _, _, h1, h2, _⟩
                · cases e
                · simp only [Value.slice.injEq, Option.some.injEq, Addr.mk.injEq, and_true, true_and] at e
                  obtain ⟨rfl, rfl⟩ := e
                  exact h1
              have HA := Lib.hid (And.intro hown' (And.intro bS9 hB9))
              clear hown' hgrow hwh K4 bS9 hB9 hao
              refine wp_region_noPanic ?_
              refine wp_region_g (S := untilG [7] (fun Y => Below w9.heap.size w9 Y)) (by kernel_rfl) ?_
              obtain ⟨X0, hX0⟩ : ∃ Y, w9.drew = Y := ⟨_, rfl⟩
              have T0 : Below w9.heap.size w9 X0 := hX0 ▸ (Below.refl w9.heap.size w9).drew
              rw [hX0]
              clear hX0
              have bb1 : (0 : Int) ≤ (q : Int) + 1 := by omega
              have bb2 : (q : Int) + 1 ≤ (n : Int) + 1 := by omega
              have bb3 : (0 : Int) ≤ (q : Int) := by omega
              have bb4 : (q : Int) ≤ (n : Int) + 1 := by omega
              have bb5 : ((q : Int) + 1).toNat = q + 1 := by omega
              have bb6 : IntKind.i64.wrap ((q : Int) + 1) = (q : Int) + 1 := IntWalk.i64_in _ (by omega)
              have bb7 : (q : Int) < (n : Int) + 1 := by omega
              by_cases hqn : ac = q + 1
              · have hne : (ac = q + 1) = True := eq_true hqn
                have hne2 : (ac = q) = False := eq_false (by omega)
                have hqn2 : ¬ q < n := by omega
                clear hqn
                refine wpAnyG_take [0, 3] (i := 0) (v := (.slice (some ⟨ga, 0, none⟩) (n + 1) ac)) rfl (by kernel_rfl) (by kernel_rfl) (by kernel_rfl) (by kernel_rfl) (by kernel_rfl) (by kernel_rfl) (by kernel_rfl) (by kernel_rfl) (fun _ _ _ h => h) (Or.inl ⟨by rfl, ?hy⟩) T0 ?_
                case hy =>
                  intro X hX
                  go_simp
                try simp only [Act.put, List.getElem_toArray, List.getElem_cons_zero, List.getElem_cons_succ, List.setIfInBounds_toArray, List.set_cons_zero, List.set_cons_succ]
                refine wpAnyG_take [1, 2, 3] (i := 1) (v := (.int .i64 q)) rfl (by kernel_rfl) (by kernel_rfl) (by kernel_rfl) (by kernel_rfl) (by kernel_rfl) (by kernel_rfl) (by kernel_rfl) (by kernel_rfl) (fun _ _ _ h => h) (Or.inl ⟨by rfl, ?hy⟩) T0 ?_
                case hy =>
                  intro X hX
                  go_simp
                try simp only [Act.put, List.getElem_toArray, List.getElem_cons_zero, List.getElem_cons_succ, List.setIfInBounds_toArray, List.set_cons_zero, List.set_cons_succ]
                refine wpAnyG_take [2, 3] (i := 2) (v := (.int .i64 ((q : Int) + 1))) rfl (by kernel_rfl) (by kernel_rfl) (by kernel_rfl) (by kernel_rfl) (by kernel_rfl) (by kernel_rfl) (by kernel_rfl) (by kernel_rfl) (fun _ _ _ h => h) (Or.inl ⟨by rfl, ?hy⟩) T0 ?_
                case hy =>
                  intro X hX
                  go_simp
                try simp only [Act.put, List.getElem_toArray, List.getElem_cons_zero, List.getElem_cons_succ, List.setIfInBounds_toArray, List.set_cons_zero, List.set_cons_succ]
                refine wpAnyG_take [3] (i := 3) (v := (.slice (some ⟨ga, 0, none⟩) (n - q) (ac - (q + 1)))) rfl (by kernel_rfl) (by kernel_rfl) (by kernel_rfl) (by kernel_rfl) (by kernel_rfl) (by kernel_rfl) (by kernel_rfl) (by kernel_rfl) (fun _ _ _ h => h) (Or.inl ⟨by rfl, ?hy⟩) T0 ?_
                case hy =>
                  intro X hX
                  go_simp
                try simp only [Act.put, List.getElem_toArray, List.getElem_cons_zero, List.getElem_cons_succ, List.setIfInBounds_toArray, List.set_cons_zero, List.set_cons_succ]
                refine wpAnyG_take [4, 6] (i := 4) (v := (.slice (some ⟨ga, 0, none⟩) (n + 1) ac)) rfl (by kernel_rfl) (by kernel_rfl) (by kernel_rfl) (by kernel_rfl) (by kernel_rfl) (by kernel_rfl) (by kernel_rfl) (by kernel_rfl) (fun _ _ _ h => h) (Or.inl ⟨by rfl, ?hy⟩) T0 ?_
                case hy =>
                  intro X hX
                  go_simp
                try simp only [Act.put, List.getElem_toArray, List.getElem_cons_zero, List.getElem_cons_succ, List.setIfInBounds_toArray, List.set_cons_zero, List.set_cons_succ]
                refine wpAnyG_all (rs := [5]) (by kernel_rfl) (by simp) ?_
                intro i hi
                simp only [List.mem_cons, List.not_mem_nil, or_false] at hi
                subst hi
                refine wpOp_now rfl rfl ?_
                go_simp
                refine ⟨fun _ => T0, ?_⟩
                try simp only [Act.put, List.getElem_toArray, List.getElem_cons_zero, List.getElem_cons_succ, List.setIfInBounds_toArray, List.set_cons_zero, List.set_cons_succ]
                refine wpAnyG_take [6] (i := 6) (v := (.slice (some ⟨ga, q * 8, none⟩) (n + 1 - q) (ac - q))) rfl (by kernel_rfl) (by kernel_rfl) (by kernel_rfl) (by kernel_rfl) (by kernel_rfl) (by kernel_rfl) (by kernel_rfl) (by kernel_rfl) (fun _ _ _ h => h) (Or.inl ⟨by rfl, ?hy⟩) T0 ?_
                case hy =>
                  intro X hX
                  go_simp
                try simp only [Act.put, List.getElem_toArray, List.getElem_cons_zero, List.getElem_cons_succ, List.setIfInBounds_toArray, List.set_cons_zero, List.set_cons_succ]
                obtain ⟨hown', bS9, hB9⟩ := HA.out
                obtain ⟨hp, hs, hvt, hkey, hnM, hzs, hob⟩ := HH.out
                have hownX := own_below hown' T0
                rw [← hzs] at hownX
                obtain ⟨X1, ys, hrun, hown1, hg1, hy1, hy2⟩ := own_make (P := Try.prog) (dT := 44) (sT := 44) (d := ac - (q + 1)) (s := ac - q) (p1 := some ⟨ga, 0, none⟩) 3 hownX rfl hnM hq (fun h => absurd h hqn2) Try.underlying44 (by rw [hi]; exact congrArg some hz1) (by decide)
                have bS1 := (bS9.below' T0).kept hg1 (fun e => hgne.2 (by cases e; rfl))
                have hB1 := (hB9.trans (T0.mono hB9.size)).grown hg1 (by have := T0.size; have := hB9.size; omega) (fun r e => by cases e; exact (hownX.lt _ rfl).1)
                have HE := Lib.hid (And.intro hy1 (And.intro hy2 (And.intro hB1 hown1)))
                clear hown' bS9 hB9 hp hs hvt hkey hnM hzs hob hownX hy1 hy2 hB1 hg1
                refine wpAnyG_all (rs := [7]) (by kernel_rfl) (by simp) ?_
                intro i hi7
                simp only [List.mem_cons, List.not_mem_nil, or_false] at hi7
                subst hi7
                refine wpOp_now rfl rfl ?_
                go_simp
                refine ⟨fun h => (nomatch (show (false : Bool) = true from h)), ?_⟩
                try simp only [Act.put, List.getElem_toArray, List.getElem_cons_zero, List.getElem_cons_succ, List.setIfInBounds_toArray, List.set_cons_zero, List.set_cons_succ]
                refine wpAnyG_done (by kernel_rfl) ?_ _
                refine NoPanic.normal ?_
                clear hrun T0
                obtain ⟨y0, hu0⟩ : ∃ u, X1.cell? ⟨ga, q * 8, none⟩ = some u := ⟨_, (hown1.cellAt (q * 8) (by omega)).trans (List.getElem?_eq_getElem (by rw [hown1.1]; omega))⟩
                have fr0 := own_freeG hown1 (q * 8)
                have bs0 := bS1.cell 0
                obtain ⟨y1, hu1⟩ : ∃ u, X1.cell? ⟨ga, q * 8 + 1, none⟩ = some u := ⟨_, (hown1.cellAt (q * 8 + 1) (by omega)).trans (List.getElem?_eq_getElem (by rw [hown1.1]; omega))⟩
                have fr1 := own_freeG hown1 (q * 8 + 1)
                have bs1 := bS1.cell 1
                obtain ⟨y2, hu2⟩ : ∃ u, X1.cell? ⟨ga, q * 8 + 2, none⟩ = some u := ⟨_, (hown1.cellAt (q * 8 + 2) (by omega)).trans (List.getElem?_eq_getElem (by rw [hown1.1]; omega))⟩
                have fr2 := own_freeG hown1 (q * 8 + 2)
                have bs2 := bS1.cell 2
                obtain ⟨y3, hu3⟩ : ∃ u, X1.cell? ⟨ga, q * 8 + 3, none⟩ = some u := ⟨_, (hown1.cellAt (q * 8 + 3) (by omega)).trans (List.getElem?_eq_getElem (by rw [hown1.1]; omega))⟩
                have fr3 := own_freeG hown1 (q * 8 + 3)
                have bs3 := bS1.cell 3
                obtain ⟨y4, hu4⟩ : ∃ u, X1.cell? ⟨ga, q * 8 + 4, none⟩ = some u := ⟨_, (hown1.cellAt (q * 8 + 4) (by omega)).trans (List.getElem?_eq_getElem (by rw [hown1.1]; omega))⟩
                have fr4 := own_freeG hown1 (q * 8 + 4)
                have bs4 := bS1.cell 4
                obtain ⟨y5, hu5⟩ : ∃ u, X1.cell? ⟨ga, q * 8 + 5, none⟩ = some u := ⟨_, (hown1.cellAt (q * 8 + 5) (by omega)).trans (List.getElem?_eq_getElem (by rw [hown1.1]; omega))⟩
                have fr5 := own_freeG hown1 (q * 8 + 5)
                have bs5 := bS1.cell 5
                obtain ⟨y6, hu6⟩ : ∃ u, X1.cell? ⟨ga, q * 8 + 6, none⟩ = some u := ⟨_, (hown1.cellAt (q * 8 + 6) (by omega)).trans (List.getElem?_eq_getElem (by rw [hown1.1]; omega))⟩
                have fr6 := own_freeG hown1 (q * 8 + 6)
                have bs6 := bS1.cell 6
                obtain ⟨y7, hu7⟩ : ∃ u, X1.cell? ⟨ga, q * 8 + 7, none⟩ = some u := ⟨_, (hown1.cellAt (q * 8 + 7) (by omega)).trans (List.getElem?_eq_getElem (by rw [hown1.1]; omega))⟩
                have fr7 := own_freeG hown1 (q * 8 + 7)
                have bs7 := bS1.cell 7
                simp only [List.getElem?_toArray, List.getElem?_cons_succ, List.getElem?_cons_zero] at bs0 bs1 bs2 bs3 bs4 bs5 bs6 bs7
                have HPUT := Lib.hid (own_put8 (q := q) (.int .i64 k) (.int .i64 j) (.int .i64 xl) (.int .i64 xb) (.int .i64 xw) (.bool xs) (.float .f64 xa) (.float .f64 xo) hown1 (by omega))
                clear hown1 bS1
                go_wp2
                go_roundw
                case rel =>
                  obtain ⟨hp, hs, hvt, hkey, hnM, hzs, hob⟩ := HH.out
                  obtain ⟨hhi, hlow⟩ := HQ.out
                  obtain ⟨hy1, hy2, hB1, hown1⟩ := HE.out
                  have hput := HPUT.out
                  have hins := ins_ok (L := M) (x := ⟨k, j, ⟨xl, xb, xw, xs, xa, xo⟩⟩) (k := q) (by omega) hs hlow hhi hkey
                  have hlen : (M.take q ++ (⟨k, j, ⟨xl, xb, xw, xs, xa, xo⟩⟩ : Sg) :: M.drop q).length = n + 1 := by rw [hins.2.length_eq]; simp [hnM]
                  have hfl : (M.take q ++ (⟨k, j, ⟨xl, xb, xw, xs, xa, xo⟩⟩ : Sg) :: M.drop q).flatMap encS = ys.take (q * 8) ++ [.int .i64 k, .int .i64 j, .int .i64 xl, .int .i64 xb, .int .i64 xw, .bool xs, .float .f64 xa, .float .f64 xo] ++ ys.drop (q * 8 + 8) := by
                    rw [List.flatMap_append, List.flatMap_cons, hy1, hy2, List.append_assoc]; rfl
                  refine ⟨j + 1, _, M.take q ++ (⟨k, j, ⟨xl, xb, xw, xs, xa, xo⟩⟩ : Sg) :: M.drop q, by go_num, rfl, by omega, hins.2.trans ?_, hins.1, ?_, ?_⟩
                  · rw [hvt, ← List.append_assoc]; exact hp.append_right _
                  · rw [hlen, hfl]; exact hput.1
                  · exact hB1.grown hput.2 hB1.size (fun r e => by cases e; exact (hown1.lt _ rfl).1)
                case measure => simp [intOf]; omega
              · have hne : (ac = q + 1) = False := eq_false hqn
                have hne2 : (ac = q) = False := eq_false (by omega)
                clear hqn
                refine wpAnyG_take [0, 3] (i := 0) (v := (.slice (some ⟨ga, 0, none⟩) (n + 1) ac)) rfl (by kernel_rfl) (by kernel_rfl) (by kernel_rfl) (by kernel_rfl) (by kernel_rfl) (by kernel_rfl) (by kernel_rfl) (by kernel_rfl) (fun _ _ _ h => h) (Or.inl ⟨by rfl, ?hy⟩) T0 ?_
                case hy =>
                  intro X hX
                  go_simp
                try simp only [Act.put, List.getElem_toArray, List.getElem_cons_zero, List.getElem_cons_succ, List.setIfInBounds_toArray, List.set_cons_zero, List.set_cons_succ]
                refine wpAnyG_take [1, 2, 3] (i := 1) (v := (.int .i64 q)) rfl (by kernel_rfl) (by kernel_rfl) (by kernel_rfl) (by kernel_rfl) (by kernel_rfl) (by kernel_rfl) (by kernel_rfl) (by kernel_rfl) (fun _ _ _ h => h) (Or.inl ⟨by rfl, ?hy⟩) T0 ?_
                case hy =>
                  intro X hX
                  go_simp
                try simp only [Act.put, List.getElem_toArray, List.getElem_cons_zero, List.getElem_cons_succ, List.setIfInBounds_toArray, List.set_cons_zero, List.set_cons_succ]
                refine wpAnyG_take [2, 3] (i := 2) (v := (.int .i64 ((q : Int) + 1))) rfl (by kernel_rfl) (by kernel_rfl) (by kernel_rfl) (by kernel_rfl) (by kernel_rfl) (by kernel_rfl) (by kernel_rfl) (by kernel_rfl) (fun _ _ _ h => h) (Or.inl ⟨by rfl, ?hy⟩) T0 ?_
                case hy =>
                  intro X hX
                  go_simp
                try simp only [Act.put, List.getElem_toArray, List.getElem_cons_zero, List.getElem_cons_succ, List.setIfInBounds_toArray, List.set_cons_zero, List.set_cons_succ]
                refine wpAnyG_take [3] (i := 3) (v := (.slice (some ⟨ga, (q + 1) * 8, none⟩) (n - q) (ac - (q + 1)))) rfl (by kernel_rfl) (by kernel_rfl) (by kernel_rfl) (by kernel_rfl) (by kernel_rfl) (by kernel_rfl) (by kernel_rfl) (by kernel_rfl) (fun _ _ _ h => h) (Or.inl ⟨by rfl, ?hy⟩) T0 ?_
                case hy =>
                  intro X hX
                  go_simp
                try simp only [Act.put, List.getElem_toArray, List.getElem_cons_zero, List.getElem_cons_succ, List.setIfInBounds_toArray, List.set_cons_zero, List.set_cons_succ]
                refine wpAnyG_take [4, 6] (i := 4) (v := (.slice (some ⟨ga, 0, none⟩) (n + 1) ac)) rfl (by kernel_rfl) (by kernel_rfl) (by kernel_rfl) (by kernel_rfl) (by kernel_rfl) (by kernel_rfl) (by kernel_rfl) (by kernel_rfl) (fun _ _ _ h => h) (Or.inl ⟨by rfl, ?hy⟩) T0 ?_
                case hy =>
                  intro X hX
                  go_simp
                try simp only [Act.put, List.getElem_toArray, List.getElem_cons_zero, List.getElem_cons_succ, List.setIfInBounds_toArray, List.set_cons_zero, List.set_cons_succ]
                refine wpAnyG_all (rs := [5]) (by kernel_rfl) (by simp) ?_
                intro i hi
                simp only [List.mem_cons, List.not_mem_nil, or_false] at hi
                subst hi
                refine wpOp_now rfl rfl ?_
                go_simp
                refine ⟨fun _ => T0, ?_⟩
                try simp only [Act.put, List.getElem_toArray, List.getElem_cons_zero, List.getElem_cons_succ, List.setIfInBounds_toArray, List.set_cons_zero, List.set_cons_succ]
                refine wpAnyG_take [6] (i := 6) (v := (.slice (some ⟨ga, q * 8, none⟩) (n + 1 - q) (ac - q))) rfl (by kernel_rfl) (by kernel_rfl) (by kernel_rfl) (by kernel_rfl) (by kernel_rfl) (by kernel_rfl) (by kernel_rfl) (by kernel_rfl) (fun _ _ _ h => h) (Or.inl ⟨by rfl, ?hy⟩) T0 ?_
                case hy =>
                  intro X hX
                  go_simp
                try simp only [Act.put, List.getElem_toArray, List.getElem_cons_zero, List.getElem_cons_succ, List.setIfInBounds_toArray, List.set_cons_zero, List.set_cons_succ]
                obtain ⟨hown', bS9, hB9⟩ := HA.out
                obtain ⟨hp, hs, hvt, hkey, hnM, hzs, hob⟩ := HH.out
                have hownX := own_below hown' T0
                rw [← hzs] at hownX
                obtain ⟨X1, ys, hrun, hown1, hg1, hy1, hy2⟩ := own_make (P := Try.prog) (dT := 44) (sT := 44) (d := ac - (q + 1)) (s := ac - q) (p1 := some ⟨ga, (q + 1) * 8, none⟩) 3 hownX rfl hnM hq (fun _ => rfl) Try.underlying44 (by rw [hi]; exact congrArg some hz1) (by decide)
                have bS1 := (bS9.below' T0).kept hg1 (fun e => hgne.2 (by cases e; rfl))
                have hB1 := (hB9.trans (T0.mono hB9.size)).grown hg1 (by have := T0.size; have := hB9.size; omega) (fun r e => by cases e; exact (hownX.lt _ rfl).1)
                have HE := Lib.hid (And.intro hy1 (And.intro hy2 (And.intro hB1 hown1)))
                clear hown' bS9 hB9 hp hs hvt hkey hnM hzs hob hownX hy1 hy2 hB1 hg1
                refine wpAnyG_all (rs := [7]) (by kernel_rfl) (by simp) ?_
                intro i hi7
                simp only [List.mem_cons, List.not_mem_nil, or_false] at hi7
                subst hi7
                refine wpOp_now rfl rfl ?_
                go_simp
                refine ⟨fun h => (nomatch (show (false : Bool) = true from h)), ?_⟩
                try simp only [Act.put, List.getElem_toArray, List.getElem_cons_zero, List.getElem_cons_succ, List.setIfInBounds_toArray, List.set_cons_zero, List.set_cons_succ]
                refine wpAnyG_done (by kernel_rfl) ?_ _
                refine NoPanic.normal ?_
                clear hrun T0
                obtain ⟨y0, hu0⟩ : ∃ u, X1.cell? ⟨ga, q * 8, none⟩ = some u := ⟨_, (hown1.cellAt (q * 8) (by omega)).trans (List.getElem?_eq_getElem (by rw [hown1.1]; omega))⟩
                have fr0 := own_freeG hown1 (q * 8)
                have bs0 := bS1.cell 0
                obtain ⟨y1, hu1⟩ : ∃ u, X1.cell? ⟨ga, q * 8 + 1, none⟩ = some u := ⟨_, (hown1.cellAt (q * 8 + 1) (by omega)).trans (List.getElem?_eq_getElem (by rw [hown1.1]; omega))⟩
                have fr1 := own_freeG hown1 (q * 8 + 1)
                have bs1 := bS1.cell 1
                obtain ⟨y2, hu2⟩ : ∃ u, X1.cell? ⟨ga, q * 8 + 2, none⟩ = some u := ⟨_, (hown1.cellAt (q * 8 + 2) (by omega)).trans (List.getElem?_eq_getElem (by rw [hown1.1]; omega))⟩
                have fr2 := own_freeG hown1 (q * 8 + 2)
                have bs2 := bS1.cell 2
                obtain ⟨y3, hu3⟩ : ∃ u, X1.cell? ⟨ga, q * 8 + 3, none⟩ = some u := ⟨_, (hown1.cellAt (q * 8 + 3) (by omega)).trans (List.getElem?_eq_getElem (by rw [hown1.1]; omega))⟩
                have fr3 := own_freeG hown1 (q * 8 + 3)
                have bs3 := bS1.cell 3
                obtain ⟨y4, hu4⟩ : ∃ u, X1.cell? ⟨ga, q * 8 + 4, none⟩ = some u := ⟨_, (hown1.cellAt (q * 8 + 4) (by omega)).trans (List.getElem?_eq_getElem (by rw [hown1.1]; omega))⟩
                have fr4 := own_freeG hown1 (q * 8 + 4)
                have bs4 := bS1.cell 4
                obtain ⟨y5, hu5⟩ : ∃ u, X1.cell? ⟨ga, q * 8 + 5, none⟩ = some u := ⟨_, (hown1.cellAt (q * 8 + 5) (by omega)).trans (List.getElem?_eq_getElem (by rw [hown1.1]; omega))⟩
                have fr5 := own_freeG hown1 (q * 8 + 5)
                have bs5 := bS1.cell 5
                obtain ⟨y6, hu6⟩ : ∃ u, X1.cell? ⟨ga, q * 8 + 6, none⟩ = some u := ⟨_, (hown1.cellAt (q * 8 + 6) (by omega)).trans (List.getElem?_eq_getElem (by rw [hown1.1]; omega))⟩
                have fr6 := own_freeG hown1 (q * 8 + 6)
                have bs6 := bS1.cell 6
                obtain ⟨y7, hu7⟩ : ∃ u, X1.cell? ⟨ga, q * 8 + 7, none⟩ = some u := ⟨_, (hown1.cellAt (q * 8 + 7) (by omega)).trans (List.getElem?_eq_getElem (by rw [hown1.1]; omega))⟩
                have fr7 := own_freeG hown1 (q * 8 + 7)
                have bs7 := bS1.cell 7
                simp only [List.getElem?_toArray, List.getElem?_cons_succ, List.getElem?_cons_zero] at bs0 bs1 bs2 bs3 bs4 bs5 bs6 bs7
                have HPUT := Lib.hid (own_put8 (q := q) (.int .i64 k) (.int .i64 j) (.int .i64 xl) (.int .i64 xb) (.int .i64 xw) (.bool xs) (.float .f64 xa) (.float .f64 xo) hown1 (by omega))
                clear hown1 bS1
                go_wp2
                go_roundw
                case rel =>
                  obtain ⟨hp, hs, hvt, hkey, hnM, hzs, hob⟩ := HH.out
                  obtain ⟨hhi, hlow⟩ := HQ.out
                  obtain ⟨hy1, hy2, hB1, hown1⟩ := HE.out
                  have hput := HPUT.out
                  have hins := ins_ok (L := M) (x := ⟨k, j, ⟨xl, xb, xw, xs, xa, xo⟩⟩) (k := q) (by omega) hs hlow hhi hkey
                  have hlen : (M.take q ++ (⟨k, j, ⟨xl, xb, xw, xs, xa, xo⟩⟩ : Sg) :: M.drop q).length = n + 1 := by rw [hins.2.length_eq]; simp [hnM]
                  have hfl : (M.take q ++ (⟨k, j, ⟨xl, xb, xw, xs, xa, xo⟩⟩ : Sg) :: M.drop q).flatMap encS = ys.take (q * 8) ++ [.int .i64 k, .int .i64 j, .int .i64 xl, .int .i64 xb, .int .i64 xw, .bool xs, .float .f64 xa, .float .f64 xo] ++ ys.drop (q * 8 + 8) := by
                    rw [List.flatMap_append, List.flatMap_cons, hy1, hy2, List.append_assoc]; rfl
                  refine ⟨j + 1, _, M.take q ++ (⟨k, j, ⟨xl, xb, xw, xs, xa, xo⟩⟩ : Sg) :: M.drop q, by go_num, rfl, by omega, hins.2.trans ?_, hins.1, ?_, ?_⟩
                  · rw [hvt, ← List.append_assoc]; exact hp.append_right _
                  · rw [hlen, hfl]; exact hput.1
                  · exact hB1.grown hput.2 hB1.size (fun r e => by cases e; exact (hown1.lt _ rfl).1)
                case measure => simp [intOf]; omega
            · obtain ⟨r, hr⟩ : ∃ r, q = r + 1 := ⟨q - 1, by omega⟩
              have hqr : (q : Int) - 1 = (r : Int) := by omega
              have hqw : IntKind.i64.wrap ((q : Int) - 1) = (r : Int) := (IntWalk.i64_in _ (by omega)).trans hqr
              obtain ⟨y, hy⟩ : ∃ y, M[r]? = some y := ⟨_, List.getElem?_eq_getElem (by have := HH.out.2.2.2.2.1; omega)⟩
              obtain ⟨gM, rfl⟩ := hoo (by omega)
              have cy : wr.cell? ⟨gM, r * 8 + 6, none⟩ = some (.float .f64 y.n.at') := (K3.1.cellAt (r * 8 + 6) (by omega)).trans (by
                rw [← HH.out.2.2.2.2.2.1]; exact (fl_get encS_len hy (by decide)).trans rfl)
              have x4 := K3.2.1.cell 4
              simp only [List.getElem?_toArray, List.getElem?_cons_succ, List.getElem?_cons_zero] at x4
              have e1 : decide ((0 : Int) < (q : Int)) = true := decide_eq_true (by omega)
              have e1n : decide (0 < q) = true := decide_eq_true (by omega)
              have r0 : (0 : Int) ≤ (r : Int) := by omega
              have r1 : (r : Int) < (n : Int) := by omega
              have cA := fun W => ahead_any xa y.n.at' W
              have hnx : mk xa < mk y.n.at' → ∀ (i : Nat) (z : Sg), r ≤ i → M[i]? = some z → mk xa < mk z.n.at' := fun h i z h1 h2 => by
                by_cases e : i = r
                · subst e; rw [hy] at h2; cases h2; exact h
                · exact hhi i z (by omega) h2
              have hlw : ¬ mk xa < mk y.n.at' → q = 0 ∨ ∃ y, M[q - 1]? = some y ∧ mk y.n.at' ≤ mk xa := fun h => .inr ⟨y, by rw [hr]; exact hy, by omega⟩
              obtain ⟨ya, hya⟩ : ∃ z, y.n.at' = z := ⟨_, rfl⟩
              rw [hya] at cy cA hnx hlw
              clear w0 w1 w2 w3 w4 w5 hya hy
              by_cases hlt2 : mk xa < mk ya
              · have hab : aheadB xa ya = true := decide_eq_true hlt2
                rw [hab] at cA
                have HQ := Lib.hid (And.intro (hnx hlt2) (And.intro hr hb))
                clear hab hlt2 hnx hlw hhi hq0 hr hqr hb
                go_wp2_with (fail)
                refine wp_region_noPanic ?_
                refine wp_region_g (S := untilG [] (fun Y => Below wr.heap.size wr Y)) (by kernel_rfl) ?_
                obtain ⟨X0, hX0⟩ : ∃ Y, World.drew wr = Y := ⟨_, rfl⟩
                have T0 : Below wr.heap.size wr X0 := hX0 ▸ (Below.refl wr.heap.size wr).drew
                rw [hX0]
                clear hX0
                refine wpAnyG_all (rs := [0]) (by kernel_rfl) (by simp) ?_
                intro i hi
                simp only [List.mem_cons, List.not_mem_nil, or_false] at hi
                subst hi
                refine wpOp_now rfl rfl ?_
                go_simp
                refine ⟨fun _ => T0, ?_⟩
                try simp only [Act.put, List.getElem_toArray, List.getElem_cons_zero, List.getElem_cons_succ, List.setIfInBounds_toArray, List.set_cons_zero, List.set_cons_succ]
                refine wpAnyG_take [1, 2, 3, 4, 5, 6, 7, 8, 9, 10, 11, 12, 13] (i := 1) (v := (.bool true)) rfl (by kernel_rfl) (by kernel_rfl) (by kernel_rfl) (by kernel_rfl) (by kernel_rfl) (by kernel_rfl) (by kernel_rfl) (by kernel_rfl) (fun _ _ _ h => h) (Or.inl ⟨by rfl, ?hy⟩) T0 ?_
                case hy =>
                  intro X hX
                  go_simp
                try simp only [Act.put, List.getElem_toArray, List.getElem_cons_zero, List.getElem_cons_succ, List.setIfInBounds_toArray, List.set_cons_zero, List.set_cons_succ]
                refine wpAnyG_all (rs := [2]) (by kernel_rfl) (by simp) ?_
                intro i hi
                simp only [List.mem_cons, List.not_mem_nil, or_false] at hi
                subst hi
                refine wpOp_now rfl rfl ?_
                go_simp
                refine ⟨fun _ => T0, ?_⟩
                try simp only [Act.put, List.getElem_toArray, List.getElem_cons_zero, List.getElem_cons_succ, List.setIfInBounds_toArray, List.set_cons_zero, List.set_cons_succ]
                refine wpAnyG_take [3, 4, 12, 13] (i := 3) (v := (.pointer (some ⟨nb, 4, none⟩))) rfl (by kernel_rfl) (by kernel_rfl) (by kernel_rfl) (by kernel_rfl) (by kernel_rfl) (by kernel_rfl) (by kernel_rfl) (by kernel_rfl) (fun _ _ _ h => h) (Or.inl ⟨by rfl, ?hy⟩) T0 ?_
                case hy =>
                  intro X hX
                  go_simp
                try simp only [Act.put, List.getElem_toArray, List.getElem_cons_zero, List.getElem_cons_succ, List.setIfInBounds_toArray, List.set_cons_zero, List.set_cons_succ]
                refine wpAnyG_take [4, 12, 13] (i := 4) (v := (.float .f64 xa)) rfl (by kernel_rfl) (by kernel_rfl) (by kernel_rfl) (by kernel_rfl) (by kernel_rfl) (by kernel_rfl) (by kernel_rfl) (by kernel_rfl) (fun _ _ _ h => h) (Or.inl ⟨by rfl, ?hy⟩) T0 ?_
                case hy =>
                  intro X hX
                  have e0 := at_below x4 hX
                  go_simp
                try simp only [Act.put, List.getElem_toArray, List.getElem_cons_zero, List.getElem_cons_succ, List.setIfInBounds_toArray, List.set_cons_zero, List.set_cons_succ]
                refine wpAnyG_take [5, 8, 9, 10, 11, 12, 13] (i := 5) (v := (.slice (some ⟨gM, 0, none⟩) n oc)) rfl (by kernel_rfl) (by kernel_rfl) (by kernel_rfl) (by kernel_rfl) (by kernel_rfl) (by kernel_rfl) (by kernel_rfl) (by kernel_rfl) (fun _ _ _ h => h) (Or.inl ⟨by rfl, ?hy⟩) T0 ?_
                case hy =>
                  intro X hX
                  go_simp
                try simp only [Act.put, List.getElem_toArray, List.getElem_cons_zero, List.getElem_cons_succ, List.setIfInBounds_toArray, List.set_cons_zero, List.set_cons_succ]
                refine wpAnyG_all (rs := [6]) (by kernel_rfl) (by simp) ?_
                intro i hi
                simp only [List.mem_cons, List.not_mem_nil, or_false] at hi
                subst hi
                refine wpOp_open rfl (by rfl) ?_
                go_simp
                refine ⟨fun _ => T0, ?_⟩
                try simp only [Act.put, List.getElem_toArray, List.getElem_cons_zero, List.getElem_cons_succ, List.setIfInBounds_toArray, List.set_cons_zero, List.set_cons_succ]
                refine wpAnyG_take [7, 8, 9, 10, 11, 12, 13] (i := 7) (v := (.int .i64 r)) rfl (by kernel_rfl) (by kernel_rfl) (by kernel_rfl) (by kernel_rfl) (by kernel_rfl) (by kernel_rfl) (by kernel_rfl) (by kernel_rfl) (fun _ _ _ h => h) (Or.inl ⟨by rfl, ?hy⟩) T0 ?_
                case hy =>
                  intro X hX
                  go_simp
                try simp only [Act.put, List.getElem_toArray, List.getElem_cons_zero, List.getElem_cons_succ, List.setIfInBounds_toArray, List.set_cons_zero, List.set_cons_succ]
                refine wpAnyG_take [8, 9, 10, 11, 12, 13] (i := 8) (v := (.pointer (some ⟨gM, r * 8, none⟩))) rfl (by kernel_rfl) (by kernel_rfl) (by kernel_rfl) (by kernel_rfl) (by kernel_rfl) (by kernel_rfl) (by kernel_rfl) (by kernel_rfl) (fun _ _ _ h => h) (Or.inl ⟨by rfl, ?hy⟩) T0 ?_
                case hy =>
                  intro X hX
                  go_simp
                try simp only [Act.put, List.getElem_toArray, List.getElem_cons_zero, List.getElem_cons_succ, List.setIfInBounds_toArray, List.set_cons_zero, List.set_cons_succ]
                refine wpAnyG_take [9, 10, 11, 12, 13] (i := 9) (v := (.pointer (some ⟨gM, r * 8 + 2, none⟩))) rfl (by kernel_rfl) (by kernel_rfl) (by kernel_rfl) (by kernel_rfl) (by kernel_rfl) (by kernel_rfl) (by kernel_rfl) (by kernel_rfl) (fun _ _ _ h => h) (Or.inl ⟨by rfl, ?hy⟩) T0 ?_
                case hy =>
                  intro X hX
                  go_simp
                try simp only [Act.put, List.getElem_toArray, List.getElem_cons_zero, List.getElem_cons_succ, List.setIfInBounds_toArray, List.set_cons_zero, List.set_cons_succ]
                refine wpAnyG_take [10, 11, 12, 13] (i := 10) (v := (.pointer (some ⟨gM, r * 8 + 6, none⟩))) rfl (by kernel_rfl) (by kernel_rfl) (by kernel_rfl) (by kernel_rfl) (by kernel_rfl) (by kernel_rfl) (by kernel_rfl) (by kernel_rfl) (fun _ _ _ h => h) (Or.inl ⟨by rfl, ?hy⟩) T0 ?_
                case hy =>
                  intro X hX
                  go_simp
                try simp only [Act.put, List.getElem_toArray, List.getElem_cons_zero, List.getElem_cons_succ, List.setIfInBounds_toArray, List.set_cons_zero, List.set_cons_succ]
                refine wpAnyG_take [11, 12, 13] (i := 11) (v := (.float .f64 ya)) rfl (by kernel_rfl) (by kernel_rfl) (by kernel_rfl) (by kernel_rfl) (by kernel_rfl) (by kernel_rfl) (by kernel_rfl) (by kernel_rfl) (fun _ _ _ h => h) (Or.inl ⟨by rfl, ?hy⟩) T0 ?_
                case hy =>
                  intro X hX
                  have e0 := at_below cy hX
                  go_simp
                try simp only [Act.put, List.getElem_toArray, List.getElem_cons_zero, List.getElem_cons_succ, List.setIfInBounds_toArray, List.set_cons_zero, List.set_cons_succ]
                refine wpAnyG_all (rs := [12]) (by kernel_rfl) (by simp) ?_
                intro i hi
                simp only [List.mem_cons, List.not_mem_nil, or_false] at hi
                subst hi
                refine wpOp_open rfl (by rfl) ?_
                go_simp
                refine (cA _).mono ?_
                rintro e Y8 ⟨rfl, hY8⟩
                rw [hY8]
                clear hY8
                refine ⟨fun _ => T0, ?_⟩
                try simp only [Act.put, List.getElem_toArray, List.getElem_cons_zero, List.getElem_cons_succ, List.setIfInBounds_toArray, List.set_cons_zero, List.set_cons_succ]
                refine wpAnyG_all (rs := [13]) (by kernel_rfl) (by simp) ?_
                intro i hi
                simp only [List.mem_cons, List.not_mem_nil, or_false] at hi
                subst hi
                refine wpOp_now rfl rfl ?_
                go_simp
                refine ⟨fun _ => T0, ?_⟩
                try simp only [Act.put, List.getElem_toArray, List.getElem_cons_zero, List.getElem_cons_succ, List.setIfInBounds_toArray, List.set_cons_zero, List.set_cons_succ]
                refine wpAnyG_done (by kernel_rfl) ?_ _
                refine NoPanic.normal ?_
                have hb2 := HQ.out.2.2.trans (T0.mono HQ.out.2.2.size)
                clear T0 cy x4 K3
                go_wp2
                go_roundw
                case rel => exact ⟨r, by go_num, by have := HQ.out.2.1; omega, HQ.out.1, hb2⟩
                case measure =>
                  have := HQ.out.2.1
                  simp [intOf]; omega
              · have hab : aheadB xa ya = false := decide_eq_false hlt2
                rw [hab] at cA
                have hlow := hlw hlt2
                clear hab hlt2 hnx hlw hq0 hr hqr hb
                go_wp2_with (fail)
                refine wp_region_noPanic ?_
                refine wp_region_g (S := untilG [] (fun Y => Below wr.heap.size wr Y)) (by kernel_rfl) ?_
                obtain ⟨X0, hX0⟩ : ∃ Y, World.drew wr = Y := ⟨_, rfl⟩
                have T0 : Below wr.heap.size wr X0 := hX0 ▸ (Below.refl wr.heap.size wr).drew
                rw [hX0]
                clear hX0
                refine wpAnyG_all (rs := [0]) (by kernel_rfl) (by simp) ?_
                intro i hi
                simp only [List.mem_cons, List.not_mem_nil, or_false] at hi
                subst hi
                refine wpOp_now rfl rfl ?_
                go_simp
                refine ⟨fun _ => T0, ?_⟩
                try simp only [Act.put, List.getElem_toArray, List.getElem_cons_zero, List.getElem_cons_succ, List.setIfInBounds_toArray, List.set_cons_zero, List.set_cons_succ]
                refine wpAnyG_take [1, 2, 3, 4, 5, 6, 7, 8, 9, 10, 11, 12, 13] (i := 1) (v := (.bool true)) rfl (by kernel_rfl) (by kernel_rfl) (by kernel_rfl) (by kernel_rfl) (by kernel_rfl) (by kernel_rfl) (by kernel_rfl) (by kernel_rfl) (fun _ _ _ h => h) (Or.inl ⟨by rfl, ?hy⟩) T0 ?_
                case hy =>
                  intro X hX
                  go_simp
                try simp only [Act.put, List.getElem_toArray, List.getElem_cons_zero, List.getElem_cons_succ, List.setIfInBounds_toArray, List.set_cons_zero, List.set_cons_succ]
                refine wpAnyG_all (rs := [2]) (by kernel_rfl) (by simp) ?_
                intro i hi
                simp only [List.mem_cons, List.not_mem_nil, or_false] at hi
                subst hi
                refine wpOp_now rfl rfl ?_
                go_simp
                refine ⟨fun _ => T0, ?_⟩
                try simp only [Act.put, List.getElem_toArray, List.getElem_cons_zero, List.getElem_cons_succ, List.setIfInBounds_toArray, List.set_cons_zero, List.set_cons_succ]
                refine wpAnyG_take [3, 4, 12, 13] (i := 3) (v := (.pointer (some ⟨nb, 4, none⟩))) rfl (by kernel_rfl) (by kernel_rfl) (by kernel_rfl) (by kernel_rfl) (by kernel_rfl) (by kernel_rfl) (by kernel_rfl) (by kernel_rfl) (fun _ _ _ h => h) (Or.inl ⟨by rfl, ?hy⟩) T0 ?_
                case hy =>
                  intro X hX
                  go_simp
                try simp only [Act.put, List.getElem_toArray, List.getElem_cons_zero, List.getElem_cons_succ, List.setIfInBounds_toArray, List.set_cons_zero, List.set_cons_succ]
                refine wpAnyG_take [4, 12, 13] (i := 4) (v := (.float .f64 xa)) rfl (by kernel_rfl) (by kernel_rfl) (by kernel_rfl) (by kernel_rfl) (by kernel_rfl) (by kernel_rfl) (by kernel_rfl) (by kernel_rfl) (fun _ _ _ h => h) (Or.inl ⟨by rfl, ?hy⟩) T0 ?_
                case hy =>
                  intro X hX
                  have e0 := at_below x4 hX
                  go_simp
                try simp only [Act.put, List.getElem_toArray, List.getElem_cons_zero, List.getElem_cons_succ, List.setIfInBounds_toArray, List.set_cons_zero, List.set_cons_succ]
                refine wpAnyG_take [5, 8, 9, 10, 11, 12, 13] (i := 5) (v := (.slice (some ⟨gM, 0, none⟩) n oc)) rfl (by kernel_rfl) (by kernel_rfl) (by kernel_rfl) (by kernel_rfl) (by kernel_rfl) (by kernel_rfl) (by kernel_rfl) (by kernel_rfl) (fun _ _ _ h => h) (Or.inl ⟨by rfl, ?hy⟩) T0 ?_
                case hy =>
                  intro X hX
                  go_simp
                try simp only [Act.put, List.getElem_toArray, List.getElem_cons_zero, List.getElem_cons_succ, List.setIfInBounds_toArray, List.set_cons_zero, List.set_cons_succ]
                refine wpAnyG_all (rs := [6]) (by kernel_rfl) (by simp) ?_
                intro i hi
                simp only [List.mem_cons, List.not_mem_nil, or_false] at hi
                subst hi
                refine wpOp_open rfl (by rfl) ?_
                go_simp
                refine ⟨fun _ => T0, ?_⟩
                try simp only [Act.put, List.getElem_toArray, List.getElem_cons_zero, List.getElem_cons_succ, List.setIfInBounds_toArray, List.set_cons_zero, List.set_cons_succ]
                refine wpAnyG_take [7, 8, 9, 10, 11, 12, 13] (i := 7) (v := (.int .i64 r)) rfl (by kernel_rfl) (by kernel_rfl) (by kernel_rfl) (by kernel_rfl) (by kernel_rfl) (by kernel_rfl) (by kernel_rfl) (by kernel_rfl) (fun _ _ _ h => h) (Or.inl ⟨by rfl, ?hy⟩) T0 ?_
                case hy =>
                  intro X hX
                  go_simp
                try simp only [Act.put, List.getElem_toArray, List.getElem_cons_zero, List.getElem_cons_succ, List.setIfInBounds_toArray, List.set_cons_zero, List.set_cons_succ]
                refine wpAnyG_take [8, 9, 10, 11, 12, 13] (i := 8) (v := (.pointer (some ⟨gM, r * 8, none⟩))) rfl (by kernel_rfl) (by kernel_rfl) (by kernel_rfl) (by kernel_rfl) (by kernel_rfl) (by kernel_rfl) (by kernel_rfl) (by kernel_rfl) (fun _ _ _ h => h) (Or.inl ⟨by rfl, ?hy⟩) T0 ?_
                case hy =>
                  intro X hX
                  go_simp
                try simp only [Act.put, List.getElem_toArray, List.getElem_cons_zero, List.getElem_cons_succ, List.setIfInBounds_toArray, List.set_cons_zero, List.set_cons_succ]
                refine wpAnyG_take [9, 10, 11, 12, 13] (i := 9) (v := (.pointer (some ⟨gM, r * 8 + 2, none⟩))) rfl (by kernel_rfl) (by kernel_rfl) (by kernel_rfl) (by kernel_rfl) (by kernel_rfl) (by kernel_rfl) (by kernel_rfl) (by kernel_rfl) (fun _ _ _ h => h) (Or.inl ⟨by rfl, ?hy⟩) T0 ?_
                case hy =>
                  intro X hX
                  go_simp
                try simp only [Act.put, List.getElem_toArray, List.getElem_cons_zero, List.getElem_cons_succ, List.setIfInBounds_toArray, List.set_cons_zero, List.set_cons_succ]
                refine wpAnyG_take [10, 11, 12, 13] (i := 10) (v := (.pointer (some ⟨gM, r * 8 + 6, none⟩))) rfl (by kernel_rfl) (by kernel_rfl) (by kernel_rfl) (by kernel_rfl) (by kernel_rfl) (by kernel_rfl) (by kernel_rfl) (by kernel_rfl) (fun _ _ _ h => h) (Or.inl ⟨by rfl, ?hy⟩) T0 ?_
                case hy =>
                  intro X hX
                  go_simp
                try simp only [Act.put, List.getElem_toArray, List.getElem_cons_zero, List.getElem_cons_succ, List.setIfInBounds_toArray, List.set_cons_zero, List.set_cons_succ]
                refine wpAnyG_take [11, 12, 13] (i := 11) (v := (.float .f64 ya)) rfl (by kernel_rfl) (by kernel_rfl) (by kernel_rfl) (by kernel_rfl) (by kernel_rfl) (by kernel_rfl) (by kernel_rfl) (by kernel_rfl) (fun _ _ _ h => h) (Or.inl ⟨by rfl, ?hy⟩) T0 ?_
                case hy =>
                  intro X hX
                  have e0 := at_below cy hX
                  go_simp
                try simp only [Act.put, List.getElem_toArray, List.getElem_cons_zero, List.getElem_cons_succ, List.setIfInBounds_toArray, List.set_cons_zero, List.set_cons_succ]
                refine wpAnyG_all (rs := [12]) (by kernel_rfl) (by simp) ?_
                intro i hi
                simp only [List.mem_cons, List.not_mem_nil, or_false] at hi
                subst hi
                refine wpOp_open rfl (by rfl) ?_
                go_simp
                refine (cA _).mono ?_
                rintro e Y8 ⟨rfl, hY8⟩
                rw [hY8]
                clear hY8
                refine ⟨fun _ => T0, ?_⟩
                try simp only [Act.put, List.getElem_toArray, List.getElem_cons_zero, List.getElem_cons_succ, List.setIfInBounds_toArray, List.set_cons_zero, List.set_cons_succ]
                refine wpAnyG_all (rs := [13]) (by kernel_rfl) (by simp) ?_
                intro i hi
                simp only [List.mem_cons, List.not_mem_nil, or_false] at hi
                subst hi
                refine wpOp_now rfl rfl ?_
                go_simp
                refine ⟨fun _ => T0, ?_⟩
                try simp only [Act.put, List.getElem_toArray, List.getElem_cons_zero, List.getElem_cons_succ, List.setIfInBounds_toArray, List.set_cons_zero, List.set_cons_succ]
                refine wpAnyG_done (by kernel_rfl) ?_ _
                refine NoPanic.normal ?_
                have K3 := K3.below K3.2.2.2.size T0
                clear cy x4 hqw r0 r1 cA
                have HQ := Lib.hid (And.intro hhi hlow)
                clear T0 hhi hlow H2
                have hszb := K3.2.2.2.size
                have hal := (Below.refl X0.heap.size X0).alloc (Nat.le_refl _) (.cells #[.int .i64 0, .int .i64 0, .int .i64 0, .int .i64 0, .int .i64 0, .bool false, .float .f64 0, .float .f64 0] 59)
                have K4 := K3.below hszb hal
                have hnw : (X0.alloc (.cells #[.int .i64 0, .int .i64 0, .int .i64 0, .int .i64 0, .int .i64 0, .bool false, .float .f64 0, .float .f64 0] 59)).heap[X0.heap.size]? = some (.cells #[.int .i64 0, .int .i64 0, .int .i64 0, .int .i64 0, .int .i64 0, .bool false, .float .f64 0, .float .f64 0] 59 (0, 0)) := World.alloc_heap_new X0 _
                have HNW := Lib.hid (And.intro hnw (And.intro K3 K4))
                have hsz3 := (show nb + 1 < X0.heap.size from K3.2.2.1.lt)
                clear hal hnw K3 K4
                go_wp2_with (at_builtin; refine wpList_append_own_at _ rfl _ _ 44 rfl w.heap.size 59 i0 (.agg #[.int .i64 0, .int .i64 0, .int .i64 0, .int .i64 0, .int .i64 0, .bool false, .float .f64 0, .float .f64 0]) 8 64 Try.underlying44 hi hz0 hz1 hz2 rfl (by decide) _ _ _ rfl HNW.out.2.2.1 ⟨X0.heap.size, 0, none⟩ 1 1 [.int .i64 0, .int .i64 0, .int .i64 0, .int .i64 0, .int .i64 0, .bool false, .float .f64 0, .float .f64 0] rfl rfl (World.news_of_block (cs := #[.int .i64 0, .int .i64 0, .int .i64 0, .int .i64 0, .int .i64 0, .bool false, .float .f64 0, .float .f64 0]) (t := 59) (fr := (0, 0)) HNW.out.1) (by decide) (by unfold maxLen; omega) (by omega) (by simp; omega) ?_; intro v' w9 hown' hgrow _ hwh)
                have K4 := HNW.out.2.2
                obtain ⟨ao, ac, rfl, hao⟩ := own_slice hown'
                obtain ⟨ga, rfl⟩ := hao (by omega)
                have hgne : ga ≠ nb ∧ ga ≠ nb + 1 := by
                  have hwh' : some ga = (Value.slice (some ⟨gM, 0, none⟩) n oc).ownBlock ∨ some ga = some (X0.alloc (.cells #[.int .i64 0, .int .i64 0, .int .i64 0, .int .i64 0, .int .i64 0, .bool false, .float .f64 0, .float .f64 0] 59)).heap.size := hwh
                  rcases hwh' with h | h
                  · have := HH.out.2.2.2.2.2.2 ga h.symm
                    omega
                  · simp at h
                    omega
                have bS9 := K4.2.2.1.kept (show World.grownBy _ w9 _ from hgrow) (fun e => by have := HH.out.2.2.2.2.2.2 (nb + 1) e.symm; omega)
                have hB9 : Below w.heap.size w w9 := K4.2.2.2.grown (show World.grownBy _ w9 _ from hgrow) (by simp; omega) (fun r hr => (K4.1.lt r hr).1)
                have hac : n + 1 ≤ ac := by
                  rcases hown'.2 with ⟨e, _⟩ | ⟨g, c, cur, e, _, _, h1, h2, _⟩
                  · cases e
                  · simp only [Value.slice.injEq, Option.some.injEq, Addr.mk.injEq, and_true, true_and] at e
                    obtain ⟨rfl, rfl⟩ := e
                    exact h1
                have HA := Lib.hid (And.intro hown' (And.intro bS9 hB9))
                clear hown' hgrow hwh K4 bS9 hB9 hao
                refine wp_region_noPanic ?_
                refine wp_region_g (S := untilG [7] (fun Y => Below w9.heap.size w9 Y)) (by kernel_rfl) ?_
                obtain ⟨X0, hX0⟩ : ∃ Y, w9.drew = Y := ⟨_, rfl⟩
                have T0 : Below w9.heap.size w9 X0 := hX0 ▸ (Below.refl w9.heap.size w9).drew
                rw [hX0]
                clear hX0
                have bb1 : (0 : Int) ≤ (q : Int) + 1 := by omega
                have bb2 : (q : Int) + 1 ≤ (n : Int) + 1 := by omega
                have bb3 : (0 : Int) ≤ (q : Int) := by omega
                have bb4 : (q : Int) ≤ (n : Int) + 1 := by omega
                have bb5 : ((q : Int) + 1).toNat = q + 1 := by omega
                have bb6 : IntKind.i64.wrap ((q : Int) + 1) = (q : Int) + 1 := IntWalk.i64_in _ (by omega)
                have bb7 : (q : Int) < (n : Int) + 1 := by omega
                by_cases hqn : ac = q + 1
                · have hne : (ac = q + 1) = True := eq_true hqn
                  have hne2 : (ac = q) = False := eq_false (by omega)
                  have hqn2 : ¬ q < n := by omega
                  clear hqn
                  refine wpAnyG_take [0, 3] (i := 0) (v := (.slice (some ⟨ga, 0, none⟩) (n + 1) ac)) rfl (by kernel_rfl) (by kernel_rfl) (by kernel_rfl) (by kernel_rfl) (by kernel_rfl) (by kernel_rfl) (by kernel_rfl) (by kernel_rfl) (fun _ _ _ h => h) (Or.inl ⟨by rfl, ?hy⟩) T0 ?_
                  case hy =>
                    intro X hX
                    go_simp
                  try simp only [Act.put, List.getElem_toArray, List.getElem_cons_zero, List.getElem_cons_succ, List.setIfInBounds_toArray, List.set_cons_zero, List.set_cons_succ]
                  refine wpAnyG_take [1, 2, 3] (i := 1) (v := (.int .i64 q)) rfl (by kernel_rfl) (by kernel_rfl) (by kernel_rfl) (by kernel_rfl) (by kernel_rfl) (by kernel_rfl) (by kernel_rfl) (by kernel_rfl) (fun _ _ _ h => h) (Or.inl ⟨by rfl, ?hy⟩) T0 ?_
                  case hy =>
                    intro X hX
                    go_simp
                  try simp only [Act.put, List.getElem_toArray, List.getElem_cons_zero, List.getElem_cons_succ, List.setIfInBounds_toArray, List.set_cons_zero, List.set_cons_succ]
                  refine wpAnyG_take [2, 3] (i := 2) (v := (.int .i64 ((q : Int) + 1))) rfl (by kernel_rfl) (by kernel_rfl) (by kernel_rfl) (by kernel_rfl) (by kernel_rfl) (by kernel_rfl) (by kernel_rfl) (by kernel_rfl) (fun _ _ _ h => h) (Or.inl ⟨by rfl, ?hy⟩) T0 ?_
                  case hy =>
                    intro X hX
                    go_simp
                  try simp only [Act.put, List.getElem_toArray, List.getElem_cons_zero, List.getElem_cons_succ, List.setIfInBounds_toArray, List.set_cons_zero, List.set_cons_succ]
                  refine wpAnyG_take [3] (i := 3) (v := (.slice (some ⟨ga, 0, none⟩) (n - q) (ac - (q + 1)))) rfl (by kernel_rfl) (by kernel_rfl) (by kernel_rfl) (by kernel_rfl) (by kernel_rfl) (by kernel_rfl) (by kernel_rfl) (by kernel_rfl) (fun _ _ _ h => h) (Or.inl ⟨by rfl, ?hy⟩) T0 ?_
                  case hy =>
                    intro X hX
                    go_simp
                  try simp only [Act.put, List.getElem_toArray, List.getElem_cons_zero, List.getElem_cons_succ, List.setIfInBounds_toArray, List.set_cons_zero, List.set_cons_succ]
                  refine wpAnyG_take [4, 6] (i := 4) (v := (.slice (some ⟨ga, 0, none⟩) (n + 1) ac)) rfl (by kernel_rfl) (by kernel_rfl) (by kernel_rfl) (by kernel_rfl) (by kernel_rfl) (by kernel_rfl) (by kernel_rfl) (by kernel_rfl) (fun _ _ _ h => h) (Or.inl ⟨by rfl, ?hy⟩) T0 ?_
                  case hy =>
                    intro X hX
                    go_simp
                  try simp only [Act.put, List.getElem_toArray, List.getElem_cons_zero, List.getElem_cons_succ, List.setIfInBounds_toArray, List.set_cons_zero, List.set_cons_succ]
                  refine wpAnyG_all (rs := [5]) (by kernel_rfl) (by simp) ?_
                  intro i hi
                  simp only [List.mem_cons, List.not_mem_nil, or_false] at hi
                  subst hi
                  refine wpOp_now rfl rfl ?_
                  go_simp
                  refine ⟨fun _ => T0, ?_⟩
                  try simp only [Act.put, List.getElem_toArray, List.getElem_cons_zero, List.getElem_cons_succ, List.setIfInBounds_toArray, List.set_cons_zero, List.set_cons_succ]
                  refine wpAnyG_take [6] (i := 6) (v := (.slice (some ⟨ga, q * 8, none⟩) (n + 1 - q) (ac - q))) rfl (by kernel_rfl) (by kernel_rfl) (by kernel_rfl) (by kernel_rfl) (by kernel_rfl) (by kernel_rfl) (by kernel_rfl) (by kernel_rfl) (fun _ _ _ h => h) (Or.inl ⟨by rfl, ?hy⟩) T0 ?_
                  case hy =>
                    intro X hX
                    go_simp
                  try simp only [Act.put, List.getElem_toArray, List.getElem_cons_zero, List.getElem_cons_succ, List.setIfInBounds_toArray, List.set_cons_zero, List.set_cons_succ]
                  obtain ⟨hown', bS9, hB9⟩ := HA.out
                  obtain ⟨hp, hs, hvt, hkey, hnM, hzs, hob⟩ := HH.out
                  have hownX := own_below hown' T0
                  rw [← hzs] at hownX
                  obtain ⟨X1, ys, hrun, hown1, hg1, hy1, hy2⟩ := own_make (P := Try.prog) (dT := 44) (sT := 44) (d := ac - (q + 1)) (s := ac - q) (p1 := some ⟨ga, 0, none⟩) 3 hownX rfl hnM hq (fun h => absurd h hqn2) Try.underlying44 (by rw [hi]; exact congrArg some hz1) (by decide)
                  have bS1 := (bS9.below' T0).kept hg1 (fun e => hgne.2 (by cases e; rfl))
                  have hB1 := (hB9.trans (T0.mono hB9.size)).grown hg1 (by have := T0.size; have := hB9.size; omega) (fun r e => by cases e; exact (hownX.lt _ rfl).1)
                  have HE := Lib.hid (And.intro hy1 (And.intro hy2 (And.intro hB1 hown1)))
                  clear hown' bS9 hB9 hp hs hvt hkey hnM hzs hob hownX hy1 hy2 hB1 hg1
                  refine wpAnyG_all (rs := [7]) (by kernel_rfl) (by simp) ?_
                  intro i hi7
                  simp only [List.mem_cons, List.not_mem_nil, or_false] at hi7
                  subst hi7
                  refine wpOp_now rfl rfl ?_
                  go_simp
                  refine ⟨fun h => (nomatch (show (false : Bool) = true from h)), ?_⟩
                  try simp only [Act.put, List.getElem_toArray, List.getElem_cons_zero, List.getElem_cons_succ, List.setIfInBounds_toArray, List.set_cons_zero, List.set_cons_succ]
                  refine wpAnyG_done (by kernel_rfl) ?_ _
                  refine NoPanic.normal ?_
                  clear hrun T0
                  obtain ⟨y0, hu0⟩ : ∃ u, X1.cell? ⟨ga, q * 8, none⟩ = some u := ⟨_, (hown1.cellAt (q * 8) (by omega)).trans (List.getElem?_eq_getElem (by rw [hown1.1]; omega))⟩
                  have fr0 := own_freeG hown1 (q * 8)
                  have bs0 := bS1.cell 0
                  obtain ⟨y1, hu1⟩ : ∃ u, X1.cell? ⟨ga, q * 8 + 1, none⟩ = some u := ⟨_, (hown1.cellAt (q * 8 + 1) (by omega)).trans (List.getElem?_eq_getElem (by rw [hown1.1]; omega))⟩
                  have fr1 := own_freeG hown1 (q * 8 + 1)
                  have bs1 := bS1.cell 1
                  obtain ⟨y2, hu2⟩ : ∃ u, X1.cell? ⟨ga, q * 8 + 2, none⟩ = some u := ⟨_, (hown1.cellAt (q * 8 + 2) (by omega)).trans (List.getElem?_eq_getElem (by rw [hown1.1]; omega))⟩
                  have fr2 := own_freeG hown1 (q * 8 + 2)
                  have bs2 := bS1.cell 2
                  obtain ⟨y3, hu3⟩ : ∃ u, X1.cell? ⟨ga, q * 8 + 3, none⟩ = some u := ⟨_, (hown1.cellAt (q * 8 + 3) (by omega)).trans (List.getElem?_eq_getElem (by rw [hown1.1]; omega))⟩
                  have fr3 := own_freeG hown1 (q * 8 + 3)
                  have bs3 := bS1.cell 3
                  obtain ⟨y4, hu4⟩ : ∃ u, X1.cell? ⟨ga, q * 8 + 4, none⟩ = some u := ⟨_, (hown1.cellAt (q * 8 + 4) (by omega)).trans (List.getElem?_eq_getElem (by rw [hown1.1]; omega))⟩
                  have fr4 := own_freeG hown1 (q * 8 + 4)
                  have bs4 := bS1.cell 4
                  obtain ⟨y5, hu5⟩ : ∃ u, X1.cell? ⟨ga, q * 8 + 5, none⟩ = some u := ⟨_, (hown1.cellAt (q * 8 + 5) (by omega)).trans (List.getElem?_eq_getElem (by rw [hown1.1]; omega))⟩
                  have fr5 := own_freeG hown1 (q * 8 + 5)
                  have bs5 := bS1.cell 5
                  obtain ⟨y6, hu6⟩ : ∃ u, X1.cell? ⟨ga, q * 8 + 6, none⟩ = some u := ⟨_, (hown1.cellAt (q * 8 + 6) (by omega)).trans (List.getElem?_eq_getElem (by rw [hown1.1]; omega))⟩
                  have fr6 := own_freeG hown1 (q * 8 + 6)
                  have bs6 := bS1.cell 6
                  obtain ⟨y7, hu7⟩ : ∃ u, X1.cell? ⟨ga, q * 8 + 7, none⟩ = some u := ⟨_, (hown1.cellAt (q * 8 + 7) (by omega)).trans (List.getElem?_eq_getElem (by rw [hown1.1]; omega))⟩
                  have fr7 := own_freeG hown1 (q * 8 + 7)
                  have bs7 := bS1.cell 7
                  simp only [List.getElem?_toArray, List.getElem?_cons_succ, List.getElem?_cons_zero] at bs0 bs1 bs2 bs3 bs4 bs5 bs6 bs7
                  have HPUT := Lib.hid (own_put8 (q := q) (.int .i64 k) (.int .i64 j) (.int .i64 xl) (.int .i64 xb) (.int .i64 xw) (.bool xs) (.float .f64 xa) (.float .f64 xo) hown1 (by omega))
                  clear hown1 bS1
                  go_wp2
                  go_roundw
                  case rel =>
                    obtain ⟨hp, hs, hvt, hkey, hnM, hzs, hob⟩ := HH.out
                    obtain ⟨hhi, hlow⟩ := HQ.out
                    obtain ⟨hy1, hy2, hB1, hown1⟩ := HE.out
                    have hput := HPUT.out
                    have hins := ins_ok (L := M) (x := ⟨k, j, ⟨xl, xb, xw, xs, xa, xo⟩⟩) (k := q) (by omega) hs hlow hhi hkey
                    have hlen : (M.take q ++ (⟨k, j, ⟨xl, xb, xw, xs, xa, xo⟩⟩ : Sg) :: M.drop q).length = n + 1 := by rw [hins.2.length_eq]; simp [hnM]
                    have hfl : (M.take q ++ (⟨k, j, ⟨xl, xb, xw, xs, xa, xo⟩⟩ : Sg) :: M.drop q).flatMap encS = ys.take (q * 8) ++ [.int .i64 k, .int .i64 j, .int .i64 xl, .int .i64 xb, .int .i64 xw, .bool xs, .float .f64 xa, .float .f64 xo] ++ ys.drop (q * 8 + 8) := by
                      rw [List.flatMap_append, List.flatMap_cons, hy1, hy2, List.append_assoc]; rfl
                    refine ⟨j + 1, _, M.take q ++ (⟨k, j, ⟨xl, xb, xw, xs, xa, xo⟩⟩ : Sg) :: M.drop q, by go_num, rfl, by omega, hins.2.trans ?_, hins.1, ?_, ?_⟩
                    · rw [hvt, ← List.append_assoc]; exact hp.append_right _
                    · rw [hlen, hfl]; exact hput.1
                    · exact hB1.grown hput.2 hB1.size (fun r e => by cases e; exact (hown1.lt _ rfl).1)
                  case measure => simp [intOf]; omega
                · have hne : (ac = q + 1) = False := eq_false hqn
                  have hne2 : (ac = q) = False := eq_false (by omega)
                  clear hqn
                  refine wpAnyG_take [0, 3] (i := 0) (v := (.slice (some ⟨ga, 0, none⟩) (n + 1) ac)) rfl (by kernel_rfl) (by kernel_rfl) (by kernel_rfl) (by kernel_rfl) (by kernel_rfl) (by kernel_rfl) (by kernel_rfl) (by kernel_rfl) (fun _ _ _ h => h) (Or.inl ⟨by rfl, ?hy⟩) T0 ?_
                  case hy =>
                    intro X hX
                    go_simp
                  try simp only [Act.put, List.getElem_toArray, List.getElem_cons_zero, List.getElem_cons_succ, List.setIfInBounds_toArray, List.set_cons_zero, List.set_cons_succ]
                  refine wpAnyG_take [1, 2, 3] (i := 1) (v := (.int .i64 q)) rfl (by kernel_rfl) (by kernel_rfl) (by kernel_rfl) (by kernel_rfl) (by kernel_rfl) (by kernel_rfl) (by kernel_rfl) (by kernel_rfl) (fun _ _ _ h => h) (Or.inl ⟨by rfl, ?hy⟩) T0 ?_
                  case hy =>
                    intro X hX
                    go_simp
                  try simp only [Act.put, List.getElem_toArray, List.getElem_cons_zero, List.getElem_cons_succ, List.setIfInBounds_toArray, List.set_cons_zero, List.set_cons_succ]
                  refine wpAnyG_take [2, 3] (i := 2) (v := (.int .i64 ((q : Int) + 1))) rfl (by kernel_rfl) (by kernel_rfl) (by kernel_rfl) (by kernel_rfl) (by kernel_rfl) (by kernel_rfl) (by kernel_rfl) (by kernel_rfl) (fun _ _ _ h => h) (Or.inl ⟨by rfl, ?hy⟩) T0 ?_
                  case hy =>
                    intro X hX
                    go_simp
                  try simp only [Act.put, List.getElem_toArray, List.getElem_cons_zero, List.getElem_cons_succ, List.setIfInBounds_toArray, List.set_cons_zero, List.set_cons_succ]
                  refine wpAnyG_take [3] (i := 3) (v := (.slice (some ⟨ga, (q + 1) * 8, none⟩) (n - q) (ac - (q + 1)))) rfl (by kernel_rfl) (by kernel_rfl) (by kernel_rfl) (by kernel_rfl) (by kernel_rfl) (by kernel_rfl) (by kernel_rfl) (by kernel_rfl) (fun _ _ _ h => h) (Or.inl ⟨by rfl, ?hy⟩) T0 ?_
                  case hy =>
                    intro X hX
                    go_simp
                  try simp only [Act.put, List.getElem_toArray, List.getElem_cons_zero, List.getElem_cons_succ, List.setIfInBounds_toArray, List.set_cons_zero, List.set_cons_succ]
                  refine wpAnyG_take [4, 6] (i := 4) (v := (.slice (some ⟨ga, 0, none⟩) (n + 1) ac)) rfl (by kernel_rfl) (by kernel_rfl) (by kernel_rfl) (by kernel_rfl) (by kernel_rfl) (by kernel_rfl) (by kernel_rfl) (by kernel_rfl) (fun _ _ _ h => h) (Or.inl ⟨by rfl, ?hy⟩) T0 ?_
                  case hy =>
                    intro X hX
                    go_simp
                  try simp only [Act.put, List.getElem_toArray, List.getElem_cons_zero, List.getElem_cons_succ, List.setIfInBounds_toArray, List.set_cons_zero, List.set_cons_succ]
                  refine wpAnyG_all (rs := [5]) (by kernel_rfl) (by simp) ?_
                  intro i hi
                  simp only [List.mem_cons, List.not_mem_nil, or_false] at hi
                  subst hi
                  refine wpOp_now rfl rfl ?_
                  go_simp
                  refine ⟨fun _ => T0, ?_⟩
                  try simp only [Act.put, List.getElem_toArray, List.getElem_cons_zero, List.getElem_cons_succ, List.setIfInBounds_toArray, List.set_cons_zero, List.set_cons_succ]
                  refine wpAnyG_take [6] (i := 6) (v := (.slice (some ⟨ga, q * 8, none⟩) (n + 1 - q) (ac - q))) rfl (by kernel_rfl) (by kernel_rfl) (by kernel_rfl) (by kernel_rfl) (by kernel_rfl) (by kernel_rfl) (by kernel_rfl) (by kernel_rfl) (fun _ _ _ h => h) (Or.inl ⟨by rfl, ?hy⟩) T0 ?_
                  case hy =>
                    intro X hX
                    go_simp
                  try simp only [Act.put, List.getElem_toArray, List.getElem_cons_zero, List.getElem_cons_succ, List.setIfInBounds_toArray, List.set_cons_zero, List.set_cons_succ]
                  obtain ⟨hown', bS9, hB9⟩ := HA.out
                  obtain ⟨hp, hs, hvt, hkey, hnM, hzs, hob⟩ := HH.out
                  have hownX := own_below hown' T0
                  rw [← hzs] at hownX
                  obtain ⟨X1, ys, hrun, hown1, hg1, hy1, hy2⟩ := own_make (P := Try.prog) (dT := 44) (sT := 44) (d := ac - (q + 1)) (s := ac - q) (p1 := some ⟨ga, (q + 1) * 8, none⟩) 3 hownX rfl hnM hq (fun _ => rfl) Try.underlying44 (by rw [hi]; exact congrArg some hz1) (by decide)
                  have bS1 := (bS9.below' T0).kept hg1 (fun e => hgne.2 (by cases e; rfl))
                  have hB1 := (hB9.trans (T0.mono hB9.size)).grown hg1 (by have := T0.size; have := hB9.size; omega) (fun r e => by cases e; exact (hownX.lt _ rfl).1)
                  have HE := Lib.hid (And.intro hy1 (And.intro hy2 (And.intro hB1 hown1)))
                  clear hown' bS9 hB9 hp hs hvt hkey hnM hzs hob hownX hy1 hy2 hB1 hg1
                  refine wpAnyG_all (rs := [7]) (by kernel_rfl) (by simp) ?_
                  intro i hi7
                  simp only [List.mem_cons, List.not_mem_nil, or_false] at hi7
                  subst hi7
                  refine wpOp_now rfl rfl ?_
                  go_simp
                  refine ⟨fun h => (nomatch (show (false : Bool) = true from h)), ?_⟩
                  try simp only [Act.put, List.getElem_toArray, List.getElem_cons_zero, List.getElem_cons_succ, List.setIfInBounds_toArray, List.set_cons_zero, List.set_cons_succ]
                  refine wpAnyG_done (by kernel_rfl) ?_ _
                  refine NoPanic.normal ?_
                  clear hrun T0
                  obtain ⟨y0, hu0⟩ : ∃ u, X1.cell? ⟨ga, q * 8, none⟩ = some u := ⟨_, (hown1.cellAt (q * 8) (by omega)).trans (List.getElem?_eq_getElem (by rw [hown1.1]; omega))⟩
                  have fr0 := own_freeG hown1 (q * 8)
                  have bs0 := bS1.cell 0
                  obtain ⟨y1, hu1⟩ : ∃ u, X1.cell? ⟨ga, q * 8 + 1, none⟩ = some u := ⟨_, (hown1.cellAt (q * 8 + 1) (by omega)).trans (List.getElem?_eq_getElem (by rw [hown1.1]; omega))⟩
                  have fr1 := own_freeG hown1 (q * 8 + 1)
                  have bs1 := bS1.cell 1
                  obtain ⟨y2, hu2⟩ : ∃ u, X1.cell? ⟨ga, q * 8 + 2, none⟩ = some u := ⟨_, (hown1.cellAt (q * 8 + 2) (by omega)).trans (List.getElem?_eq_getElem (by rw [hown1.1]; omega))⟩
                  have fr2 := own_freeG hown1 (q * 8 + 2)
                  have bs2 := bS1.cell 2
                  obtain ⟨y3, hu3⟩ : ∃ u, X1.cell? ⟨ga, q * 8 + 3, none⟩ = some u := ⟨_, (hown1.cellAt (q * 8 + 3) (by omega)).trans (List.getElem?_eq_getElem (by rw [hown1.1]; omega))⟩
                  have fr3 := own_freeG hown1 (q * 8 + 3)
                  have bs3 := bS1.cell 3
                  obtain ⟨y4, hu4⟩ : ∃ u, X1.cell? ⟨ga, q * 8 + 4, none⟩ = some u := ⟨_, (hown1.cellAt (q * 8 + 4) (by omega)).trans (List.getElem?_eq_getElem (by rw [hown1.1]; omega))⟩
                  have fr4 := own_freeG hown1 (q * 8 + 4)
                  have bs4 := bS1.cell 4
                  obtain ⟨y5, hu5⟩ : ∃ u, X1.cell? ⟨ga, q * 8 + 5, none⟩ = some u := ⟨_, (hown1.cellAt (q * 8 + 5) (by omega)).trans (List.getElem?_eq_getElem (by rw [hown1.1]; omega))⟩
                  have fr5 := own_freeG hown1 (q * 8 + 5)
                  have bs5 := bS1.cell 5
                  obtain ⟨y6, hu6⟩ : ∃ u, X1.cell? ⟨ga, q * 8 + 6, none⟩ = some u := ⟨_, (hown1.cellAt (q * 8 + 6) (by omega)).trans (List.getElem?_eq_getElem (by rw [hown1.1]; omega))⟩
                  have fr6 := own_freeG hown1 (q * 8 + 6)
                  have bs6 := bS1.cell 6
                  obtain ⟨y7, hu7⟩ : ∃ u, X1.cell? ⟨ga, q * 8 + 7, none⟩ = some u := ⟨_, (hown1.cellAt (q * 8 + 7) (by omega)).trans (List.getElem?_eq_getElem (by rw [hown1.1]; omega))⟩
                  have fr7 := own_freeG hown1 (q * 8 + 7)
                  have bs7 := bS1.cell 7
                  simp only [List.getElem?_toArray, List.getElem?_cons_succ, List.getElem?_cons_zero] at bs0 bs1 bs2 bs3 bs4 bs5 bs6 bs7
                  have HPUT := Lib.hid (own_put8 (q := q) (.int .i64 k) (.int .i64 j) (.int .i64 xl) (.int .i64 xb) (.int .i64 xw) (.bool xs) (.float .f64 xa) (.float .f64 xo) hown1 (by omega))
                  clear hown1 bS1
                  go_wp2
                  go_roundw
                  case rel =>
                    obtain ⟨hp, hs, hvt, hkey, hnM, hzs, hob⟩ := HH.out
                    obtain ⟨hhi, hlow⟩ := HQ.out
                    obtain ⟨hy1, hy2, hB1, hown1⟩ := HE.out
                    have hput := HPUT.out
                    have hins := ins_ok (L := M) (x := ⟨k, j, ⟨xl, xb, xw, xs, xa, xo⟩⟩) (k := q) (by omega) hs hlow hhi hkey
                    have hlen : (M.take q ++ (⟨k, j, ⟨xl, xb, xw, xs, xa, xo⟩⟩ : Sg) :: M.drop q).length = n + 1 := by rw [hins.2.length_eq]; simp [hnM]
                    have hfl : (M.take q ++ (⟨k, j, ⟨xl, xb, xw, xs, xa, xo⟩⟩ : Sg) :: M.drop q).flatMap encS = ys.take (q * 8) ++ [.int .i64 k, .int .i64 j, .int .i64 xl, .int .i64 xb, .int .i64 xw, .bool xs, .float .f64 xa, .float .f64 xo] ++ ys.drop (q * 8 + 8) := by
                      rw [List.flatMap_append, List.flatMap_cons, hy1, hy2, List.append_assoc]; rfl
                    refine ⟨j + 1, _, M.take q ++ (⟨k, j, ⟨xl, xb, xw, xs, xa, xo⟩⟩ : Sg) :: M.drop q, by go_num, rfl, by omega, hins.2.trans ?_, hins.1, ?_, ?_⟩
                    · rw [hvt, ← List.append_assoc]; exact hp.append_right _
                    · rw [hlen, hfl]; exact hput.1
                    · exact hB1.grown hput.2 hB1.size (fun r e => by cases e; exact (hown1.lt _ rfl).1)
                  case measure => simp [intOf]; omega
        · obtain rfl : j = l.length := by omega
          have hO : MrO vs w (.int .i64 (k + 1 : Nat)) out2 wr := ⟨k + 1, _, M, rfl, rfl, by omega, by
            obtain ⟨hv, hl, htk, hr0⟩ := HV.out
            rw [allS_take hl]
            rw [List.take_of_length_le (Nat.le_refl _)] at hp
            exact hp, hs, hown, hB⟩
          have HO := Lib.hid hO
          clear hO hown hB hp hs
          go_wp2
          go_roundw
          case rel => exact HO.out
          case measure => simp [intOf]; omega
    · obtain rfl : k = vs.length := by omega
      rw [List.take_of_length_le (Nat.le_refl _)] at hp
      have HZ := Lib.hid (And.intro hp (And.intro hs (And.intro hown hB)))
      clear hp hs hown hB hv
      go_wp2
      go_ret
      exact ⟨_, L, rfl, HZ.out.1, HZ.out.2.1, HZ.out.2.2.1, HZ.out.2.2.2⟩
end Go.Proofs.Ytieaeicpmibjkaa
