/- Several texts in one. -/
import Derived.Test.YtjccoiephdopkaaDoorNb
import Derived.Test.YtjccoiephdopkaaDoorQQNt
import Derived.Test.YtjccoiephdopkaaDoorJx
import Derived.Test.YtjccoiephdopkaaDoorJg
import Derived.Scope
import Derived.Test.YtjccoiephdopkaaDoorHd
import Derived.Test.YtjccoiephdopkaaDoorHr
import Derived.Test.YtjccoiephdopkaaDoorK0
import Derived.Deep.Quiet
import Derived.BigQuiet
/- Stage 27: Between. -/
namespace Go.Proofs.YtjccoiephdopkaaDoor
set_option linter.unusedVariables false
set_option linter.unusedSimpArgs false
open Go Go.RowKit Go.Shelf
set_option maxRecDepth 100000

/-- One maker that has been told these bytes. -/
def Mk1 (w0 : World) (B b : Nat) (W : World) (A : List Atm) : Prop :=
  ∃ vo vp vd, MkB W B b vo vp vd (fdL A mk0) ∧ Below w0.heap.size w0 W ∧ w0.heap.size ≤ B
section
variable {w0 W X : World} {B b : Nat} {A : List Atm}
theorem Mk1.below (h : Mk1 w0 B b W A) (hb : Below W.heap.size W X) : Mk1 w0 B b X A := by
  obtain ⟨vo, vp, vd, h1, h2, h3⟩ := h
  exact ⟨_, _, _, h1.below hb, h2.trans (hb.mono h2.size), h3⟩
theorem mk1_keep (h : Mk1 w0 B b W A) (hA : A.length ≤ 1000000) (n : Nat) (hn : n ≤ 65536) :
    Calls Tryd.prog 47 #[.pointer (some ⟨B, 0, none⟩), .int .i64 n] W fun e W' => e = .returned (.tuple #[]) ∧ Mk1 w0 B b W' (A ++ List.replicate n .K) := by
  obtain ⟨vo, vp, vd, h1, h2, h3⟩ := h
  have hbd := fd_bd A
  refine (keep_any h1 n hn (by omega) (by omega) (by omega) (by omega)).mono ?_
  rintro e W' ⟨rfl, vo', vp', vd', g1, g2⟩
  rw [keep_fd, ← fdL_app] at g1
  exact ⟨rfl, _, _, _, g1, g2.below h1 h3 h2, h3⟩
theorem mk1_puts (h : Mk1 w0 B b W A) (hA : A.length ≤ 1000000) (s : ByteArray) (hs : s.size ≤ 1000000) :
    Calls Tryd.prog 49 #[.pointer (some ⟨B, 0, none⟩), .string s] W fun e W' => e = .returned (.tuple #[]) ∧ Mk1 w0 B b W' (A ++ (bL s).map .P) := by
  obtain ⟨vo, vp, vd, h1, h2, h3⟩ := h
  have hbd := fd_bd A
  refine (puts_any h1 s hs (by omega) (by omega)).mono ?_
  rintro e W' ⟨rfl, vo', vp', vd', g1, g2⟩
  rw [puts_fd, ← fdL_app] at g1
  exact ⟨rfl, _, _, _, g1, g2.below h1 h3 h2, h3⟩
theorem mk1_drops (h : Mk1 w0 B b W A) (hA : A.length ≤ 1000000) (s : ByteArray) (hs : s.size ≤ 1000000) :
    Calls Tryd.prog 50 #[.pointer (some ⟨B, 0, none⟩), .string s] W fun e W' => e = .returned (.tuple #[]) ∧ Mk1 w0 B b W' (A ++ (bL s).map .D) := by
  obtain ⟨vo, vp, vd, h1, h2, h3⟩ := h
  have hbd := fd_bd A
  refine (drops_any h1 s hs (by omega) (by omega)).mono ?_
  rintro e W' ⟨rfl, vo', vp', vd', g1, g2⟩
  rw [drops_fd, ← fdL_app] at g1
  exact ⟨rfl, _, _, _, g1, g2.below h1 h3 h2, h3⟩
theorem mk1_end (h : Mk1 w0 B b W A) (hA : A.length ≤ 1000000) :
    Calls Tryd.prog 51 #[.pointer (some ⟨B, 0, none⟩)] W fun e W' => ∃ v, e = .returned v ∧ W'.ownsRow b 39 3 v (nfA A).length ((nfA A).flatMap encS) ∧ Below w0.heap.size w0 W' := by
  obtain ⟨vo, vp, vd, h1, h2, h3⟩ := h
  have hbd := fd_bd A
  refine (end_any h1 (by omega) (by omega) (by omega)).mono ?_
  rintro e W' ⟨v, rfl, g1, g2⟩
  exact ⟨v, rfl, g1.ro, g2.below h1 h3 h2⟩
theorem mk1_new (h : Below w0.heap.size w0 W) : Mk1 w0 W.heap.size (W.heap.size + 1) (W.alloc (.cells #[.slice none 0 0, .int .i64 0, .slice none 0 0, .slice none 0 0] 96)) [] :=
  ⟨_, _, _, ⟨Blk.new W _ _, World.ownsRow_nil _ _ _ _, World.ownsRow_nil _ _ _ _, World.ownsRow_nil _ _ _ _, .inl rfl, by omega, by simp⟩, h.trans (((Below.refl W.heap.size W).alloc (Nat.le_refl _) _).mono h.size), h.size⟩
end

/-- From one text to another: the head is kept, what stands between is put and dropped, the tail is kept. -/
def bnA (s t : ByteArray) (p M : Nat) : List Atm :=
  List.replicate p .K ++ (bL (t.extract p (t.size - M))).map .P ++ (bL (s.extract p (s.size - M))).map .D ++ List.replicate M .K
/-- Where head and tail are the same. -/
def BnK (s t : ByteArray) (p M : Nat) : Prop :=
  ∃ n, SQ.Lk s t p n ∧ SQ.St s t p ∧ bkN (s.extract p s.size) (t.extract p t.size) (posns (s.extract p s.size)).length (posns (t.extract p t.size)).length = M
theorem cut_lk {s t : ByteArray} {p n : Nat} (h : SQ.Lk s t p n) : SQ.cutN s n = p := by
  obtain ⟨h1, h2, h3⟩ := SQ.lk_lenA h
  rcases Nat.lt_or_ge p s.size with hl | hl
  · exact SQ.cutN_in s n p (h3 hl)
  · have hp : p = s.size := Nat.le_antisymm h.1 hl
    rw [SQ.cutN_out s n (by have := h2.2 hp; omega), hp]
theorem bnk_le {s t : ByteArray} {p M : Nat} (h : BnK s t p M) : p + M ≤ s.size ∧ p + M ≤ t.size := by
  obtain ⟨n, h1, h2, rfl⟩ := h
  obtain ⟨a1, a2, _⟩ := bk_fact (s.extract p s.size) (t.extract p t.size) _ _ _ _ (eg_end _) (eg_end _)
  rw [tl_size] at a1 a2
  have := h1.1
  have := h1.2.1
  omega
theorem bnk_one {s t : ByteArray} {p M q N : Nat} (h : BnK s t p M) (g : BnK s t q N) : p = q ∧ M = N := by
  obtain ⟨n, h1, h2, h3⟩ := h
  obtain ⟨m, g1, g2, g3⟩ := g
  obtain ⟨rfl, _⟩ := SQ.lk_one h1 h2 g1 g2
  exact ⟨rfl, h3.symm.trans g3⟩
theorem bnA_len {s t : ByteArray} {p M : Nat} (h : BnK s t p M) : (bnA s t p M).length ≤ s.size + t.size := by
  have := bnk_le h
  unfold bnA
  simp only [List.length_append, List.length_replicate, List.length_map, bL_len, ByteArray.size_extract]
  omega

def BeP (s t : ByteArray) (w : World) (e : Ending) (w' : World) : Prop :=
  ∃ p M v, BnK s t p M ∧ e = .returned (.tuple #[v, .int .i64 0]) ∧ w'.ownsRow w.heap.size 39 3 v (nfA (bnA s t p M)).length ((nfA (bnA s t p M)).flatMap encS) ∧ Below w.heap.size w w'

set_option maxHeartbeats 1000000 in
theorem between_any (s t : ByteArray) (hs : s.size ≤ 65536) (ht : t.size ≤ 65536) (w : World) :
    Calls Tryd.prog 20 #[.string s, .string t] w (BeP s t w) := by
  have cC := SQ.Common_any s t (by omega) (by omega)
  go_enter Tryd.func20, Tryd.ntmps20
  go_wp2_with (fail)
  refine (cC _).mono ?_
  rintro e w1 ⟨p, n, hL, hS, rfl, hb1⟩
  have hpA := hL.1
  have hpB := hL.2.1
  have hnL := (SQ.lk_lenA hL).1
  have hpl := posns_len s
  have cD := SQ.cut_any s n (by omega) (by omega)
  rw [cut_lk hL] at cD
  obtain ⟨M, hM⟩ : ∃ M, bkN (s.extract p s.size) (t.extract p t.size) (posns (s.extract p s.size)).length (posns (t.extract p t.size)).length = M := ⟨_, rfl⟩
  have hK : BnK s t p M := ⟨n, hL, hS, hM⟩
  obtain ⟨hle1, hle2⟩ := bnk_le hK
  have hlen := bnA_len hK
  have cE := ealike_any (s.extract p s.size) (t.extract p t.size) (by rw [tl_size]; omega) (by rw [tl_size]; omega) M hM
  have HK := Lib.hid (And.intro hK hlen)
  clear hK hlen hM hL hS cC hnL hpl
  have hzs := tl_size s p
  have hzt := tl_size t p
  have hzp : (s.extract 0 p).size = p := size_head s p hpA
  obtain ⟨s1, hs1⟩ : ∃ x, s.extract p s.size = x := ⟨_, rfl⟩
  obtain ⟨t1, ht1⟩ : ∃ x, t.extract p t.size = x := ⟨_, rfl⟩
  obtain ⟨h1, hh1⟩ : ∃ x, s.extract 0 p = x := ⟨_, rfl⟩
  rw [hs1] at cE cD hzs
  rw [ht1] at cE hzt
  rw [hh1] at cD hzp
  have k1 : (0 : Int) ≤ (p : Int) := by omega
  have k2 : (p : Int) ≤ (s.size : Int) := by omega
  have k3 : (p : Int) ≤ (t.size : Int) := by omega
  obtain ⟨e1, he1⟩ : ∃ k, s1.size - M = k := ⟨_, rfl⟩
  obtain ⟨e2, he2⟩ : ∃ k, t1.size - M = k := ⟨_, rfl⟩
  have f1 : IntKind.i64.wrap ((s1.size : Int) - (M : Int)) = (e1 : Int) := by rw [IntWalk.i64_in _ (by omega)]; omega
  have f2 : IntKind.i64.wrap ((t1.size : Int) - (M : Int)) = (e2 : Int) := by rw [IntWalk.i64_in _ (by omega)]; omega
  have k4 : (0 : Int) ≤ (e1 : Int) := by omega
  have k5 : (0 : Int) ≤ (e2 : Int) := by omega
  have k6 : (e1 : Int) ≤ (s1.size : Int) := by omega
  have k7 : (e2 : Int) ≤ (t1.size : Int) := by omega
  have HZ := Lib.hid (And.intro hzs (And.intro hzt (And.intro he1 he2)))
  have hq1 : (t1.extract 0 e2).size = e2 := size_head t1 e2 (by omega)
  have hq2 : (s1.extract 0 e1).size = e1 := size_head s1 e1 (by omega)
  have H3 := Lib.hid (And.intro hq1 hq2)
  have hA : List.replicate p Atm.K ++ (bL (t1.extract 0 e2)).map .P ++ (bL (s1.extract 0 e1)).map .D ++ List.replicate M .K = bnA s t p M := by
    unfold bnA
    rw [← hs1, ← ht1, tail_ext t p 0 e2 (by omega), tail_ext s p 0 e1 (by omega), Nat.add_zero, show p + e2 = t.size - M by omega, show p + e1 = s.size - M by omega]
  have HA := Lib.hid hA
  clear hzs hzt he1 he2 hq1 hq2 hA
  go_wp2_with (fail)
  refine (cD _).mono ?_
  rintro e w2 ⟨rfl, hb2⟩
  have hM1 := mk1_new (hb1.trans (hb2.mono hb1.size))
  have c1 := mk1_keep hM1 (by simp) p (by omega)
  clear cD hb1 hb2 hM1
  go_wp2_with (fail)
  refine c1.mono ?_
  rintro e w3 ⟨rfl, hM2⟩
  obtain ⟨B, hB⟩ : ∃ B, w2.heap.size = B := ⟨_, rfl⟩
  rw [hB] at hM2 ⊢
  rw [List.nil_append] at hM2
  obtain ⟨_, _, _, _, _, hBw⟩ := id hM2
  clear hB c1
  have H2 := Lib.hid hM2
  clear hM2
  go_wp2_with (fail)
  go_quiet (fail)
  generalize hU : World.drewN w3 _ = U3
  have hM3 := H2.out.below (hU ▸ SQ.below_drewN (Below.refl _ _) _)
  clear hU H2
  go_wp2_with (fail)
  refine (cE _).mono ?_
  rintro e U4 ⟨rfl, hb4⟩
  have hM4 := hM3.below hb4
  have c2 := mk1_puts hM4 (by rw [List.length_replicate]; omega) (t1.extract 0 e2) (by have := H3.out; have := HZ.out; omega)
  have HS := Lib.hid (And.intro hs1 ht1)
  clear hM3 hb4 cE hM4 hs1 ht1
  go_wp2_with (fail)
  refine c2.mono ?_
  rintro e U5 ⟨rfl, hM5⟩
  have c3 := mk1_drops hM5 (by simp only [List.length_append, List.length_replicate, List.length_map, bL_len]; have := H3.out; have := HZ.out; omega) (s1.extract 0 e1) (by have := H3.out; have := HZ.out; omega)
  clear c2 hM5
  go_wp2_with (fail)
  refine c3.mono ?_
  rintro e U6 ⟨rfl, hM6⟩
  have c4 := mk1_keep hM6 (by simp only [List.length_append, List.length_replicate, List.length_map, bL_len]; have := H3.out; have := HZ.out; omega) M (by omega)
  clear c3 hM6
  go_wp2_with (fail)
  refine c4.mono ?_
  rintro e U7 ⟨rfl, hM7⟩
  rw [HA.out] at hM7
  have c5 := mk1_end hM7 (by have := HK.out.2; omega)
  clear c4 hM7
  go_wp2_with (fail)
  refine c5.mono ?_
  rintro e U8 ⟨v, rfl, hr, hb⟩
  have HR := Lib.hid (And.intro hr hb)
  clear hr hb c5
  go_wp2_with (fail)
  go_ret2
  exact ⟨p, M, v, HK.out.1, rfl, own_base HR.out.1 (by omega), HR.out.2⟩
end Go.Proofs.YtjccoiephdopkaaDoor

/- Stage 27: sizes of the one form; what Compose answers where two changes may not be laid together. -/
namespace Go.Proofs.YtjccoiephdopkaaDoor
set_option linter.unusedVariables false
set_option linter.unusedSimpArgs false
open Go Go.RowKit Go.Shelf
set_option maxRecDepth 100000

theorem in_map_P (l : List UInt8) : inA (l.map .P) = 0 ∧ outA (l.map .P) = l.length := by
  induction l with
  | nil => exact ⟨rfl, rfl⟩
  | cons c l ih => simp only [List.map_cons, inA, outA, List.length_cons]; omega
theorem in_map_D (l : List UInt8) : inA (l.map .D) = l.length ∧ outA (l.map .D) = 0 := by
  induction l with
  | nil => exact ⟨rfl, rfl⟩
  | cons c l ih => simp only [List.map_cons, inA, outA, List.length_cons]; omega
theorem in_rep_K (n : Nat) : inA (List.replicate n .K) = n ∧ outA (List.replicate n .K) = n := by
  induction n with
  | zero => exact ⟨rfl, rfl⟩
  | succ n ih => simp only [List.replicate_succ, inA, outA]; omega
theorem in_atS (x : Sp) : inA (atS x) = x.k.toNat + x.d.size ∧ outA (atS x) = x.k.toNat + x.p.size := by
  unfold atS
  rw [inA_append, inA_append, outA_append, outA_append, (in_rep_K _).1, (in_rep_K _).2, (in_map_P _).1, (in_map_P _).2, (in_map_D _).1, (in_map_D _).2, bL_len, bL_len]
  omega
theorem atL_cons (x : Sp) (l : List Sp) : atL (x :: l) = atS x ++ atL l := rfl
theorem sizeG_in : ∀ (l : List Sp) (f t F T : Nat), sizeG l f t = some (F, T) → F = f + inA (atL l) ∧ T = t + outA (atL l) ∧ ∀ x ∈ l, kindN x ≠ 0
  | [], f, t, F, T, h => by
    simp only [sizeG, Option.some.injEq, Prod.mk.injEq] at h
    obtain ⟨rfl, rfl⟩ := h
    exact ⟨rfl, rfl, fun x hx => by cases hx⟩
  | x :: l, f, t, F, T, h => by
    unfold sizeG at h
    by_cases h0 : kindN x = 0 ∨ 65536 < x.k
    · rw [if_pos h0] at h; cases h
    · rw [if_neg h0] at h
      by_cases h1 : 65536 < f + x.k.toNat + x.d.size ∨ 65536 < t + x.k.toNat + x.p.size
      · rw [if_pos h1] at h; cases h
      · rw [if_neg h1] at h
        obtain ⟨e1, e2, e3⟩ := sizeG_in l _ _ F T h
        rw [atL_cons, inA_append, outA_append, (in_atS x).1, (in_atS x).2]
        refine ⟨by omega, by omega, fun y hy => ?_⟩
        rcases List.mem_cons.1 hy with rfl | hy
        · exact fun e => h0 (.inl e)
        · exact e3 y hy
theorem sizeG_of : ∀ (l : List Sp) (f t : Nat), (∀ x ∈ l, kindN x ≠ 0) → f + inA (atL l) ≤ 65536 → t + outA (atL l) ≤ 65536 → sizeG l f t = some (f + inA (atL l), t + outA (atL l))
  | [], f, t, _, _, _ => rfl
  | x :: l, f, t, h, hf, ht => by
    rw [atL_cons, inA_append, (in_atS x).1] at hf
    rw [atL_cons, outA_append, (in_atS x).2] at ht
    have hk := kind_pos (h x (by simp))
    unfold sizeG
    rw [if_neg (by intro e; rcases e with e | e; exact h x (by simp) e; omega), if_neg (by omega), sizeG_of l _ _ (fun y hy => h y (by simp [hy])) (by omega) (by omega)]
    rw [atL_cons, inA_append, outA_append, (in_atS x).1, (in_atS x).2]
    simp only [Option.some.injEq, Prod.mk.injEq]; omega
theorem mem_bd {l : List Sp} {x : Sp} (h : x ∈ l) : x.k.toNat + x.d.size ≤ inA (atL l) ∧ x.k.toNat + x.p.size ≤ outA (atL l) := by
  induction l with
  | nil => cases h
  | cons y l ih =>
    rw [atL_cons, inA_append, outA_append, (in_atS y).1, (in_atS y).2]
    rcases List.mem_cons.1 h with rfl | h
    · omega
    · have := ih h; omega
theorem len_le (l : List Sp) (h : ∀ x ∈ l, kindN x ≠ 0) : l.length ≤ (atL l).length := by
  induction l with
  | nil => simp
  | cons x l ih =>
    have h5 := kind_one (h x (by simp))
    have h6 := ih (fun y hy => h y (by simp [hy]))
    rw [atL_cons, List.length_append, atS_len, List.length_cons]
    unfold szS; omega
theorem at_len (A : List Atm) : A.length ≤ inA A + outA A := by
  induction A with
  | nil => simp
  | cons a A ih => cases a <;> simp only [List.length_cons, inA, outA] <;> omega
/-- The one form of a change that may be, for a cursor. -/
theorem plain_cu {l : List Sp} {F T : Nat} (h : sizeG l 0 0 = some (F, T)) : CuV (plainM l) 0 ∧ inA (atL (plainM l)) = F ∧ outA (atL (plainM l)) = T ∧ F ≤ 65536 ∧ T ≤ 65536 ∧ (plainM l).length ≤ F + T ∧ (atL (plainM l)).length ≤ F + T := by
  obtain ⟨e1, e2, e3⟩ := sizeG_in l 0 0 F T h
  have h6 : F ≤ 65536 ∧ T ≤ 65536 := by
    have key : ∀ (l : List Sp) (f t : Nat), f ≤ 65536 → t ≤ 65536 → sizeG l f t = some (F, T) → F ≤ 65536 ∧ T ≤ 65536 := by
      intro l
      induction l with
      | nil => intro f t hf ht h; simp only [sizeG, Option.some.injEq, Prod.mk.injEq] at h; omega
      | cons x l ih =>
        intro f t hf ht h
        unfold sizeG at h
        by_cases h0 : kindN x = 0 ∨ 65536 < x.k
        · rw [if_pos h0] at h; cases h
        · rw [if_neg h0] at h
          by_cases h1 : 65536 < f + x.k.toNat + x.d.size ∨ 65536 < t + x.k.toNat + x.p.size
          · rw [if_pos h1] at h; cases h
          · rw [if_neg h1] at h
            exact ih _ _ (by omega) (by omega) h
    exact key l 0 0 (by omega) (by omega) h
  rw [plain_fd]
  obtain ⟨g1, g2⟩ := nf_eq (atL l)
  have i1 := g1.inn
  have i2 := g1.out
  have hA := at_len (atL (nfA (atL l)))
  have hl := len_le _ g2
  refine ⟨⟨fun x hx => ?_, fun _ => rfl, fun x r e => ?_, by omega⟩, by omega, by omega, h6.1, h6.2, by omega, by omega⟩
  · have := mem_bd hx
    have hk := kind_pos (g2 x hx)
    exact ⟨g2 x hx, hk, by omega, by omega, by omega⟩
  · have := kind_one (g2 x (by rw [e]; simp))
    unfold szS; omega
theorem rowC2 {w : World} {g : Nat} {t : TypeId} {o1 o2 : Option Addr} {l1 l2 : List Sp} {c1 c2 : Nat} (h : w.heap[g]? = some (.cells #[.slice o1 l1.length c1, .slice o2 l2.length c2] t (0, 0))) : RowAt w encC 1 (some ⟨g, 0, none⟩) [⟨o1, l1, c1⟩, ⟨o2, l2, c2⟩] := by
  intro i x hi
  have hl : i < 2 := (List.getElem?_eq_some_iff.1 hi).1
  refine ⟨g, 0, rfl, fun j hj => ?_⟩
  have hc : ∀ o, w.cell? ⟨g, o, none⟩ = (#[.slice o1 l1.length c1, .slice o2 l2.length c2] : Array Value)[o]? := fun o => Blk.cell (t := t) h o
  rw [hc]
  match i, hl, hi, j, hj with
  | 0, _, hi, 0, _ => cases hi; rfl
  | 1, _, hi, 0, _ => cases hi; rfl
/-- What may of two changes says. -/
theorem may2_any (o1 o2 : Option Addr) (l1 l2 : List Sp) (c1 c2 : Nat) (hn1 : l1.length ≤ 9223372036854775807) (ho1 : OkS l1) (hn2 : l2.length ≤ 9223372036854775807) (ho2 : OkS l2) (w : World) (hr1 : RowAt w encS 3 o1 l1) (hr2 : RowAt w encS 3 o2 l2) :
    Calls Tryd.prog 40 #[.slice (some ⟨w.heap.size, 0, none⟩) 2 2] (w.alloc (.cells #[.slice o1 l1.length c1, .slice o2 l2.length c2] 22)) fun e w' => e = .returned (.bool ((sizeG l1 0 0).isSome && (sizeG l2 0 0).isSome)) ∧ Below w.heap.size w w' := by
  have hb := (Below.refl w.heap.size w).alloc (Nat.le_refl _) (.cells #[.slice o1 l1.length c1, .slice o2 l2.length c2] 22)
  refine (may_any [⟨o1, l1, c1⟩, ⟨o2, l2, c2⟩] (some ⟨w.heap.size, 0, none⟩) 2 (by simp) _ (rowC2 (World.alloc_heap_new w _)) ?_).mono ?_
  · intro x hx
    simp only [List.mem_cons, List.not_mem_nil, or_false] at hx
    rcases hx with rfl | rfl
    · exact ⟨hn1, ho1, hr1.below encS_len (by decide) hb⟩
    · exact ⟨hn2, ho2, hr2.below encS_len (by decide) hb⟩
  · rintro e w' ⟨rfl, hb2⟩
    exact ⟨by simp [mayB], hb.trans (hb2.mono (by simp))⟩
end Go.Proofs.YtjccoiephdopkaaDoor

/- Stage 27: the rounds of Compose, byte by byte. -/
namespace Go.Proofs.YtjccoiephdopkaaDoor
set_option linter.unusedVariables false
set_option linter.unusedSimpArgs false
open Go Go.RowKit Go.Shelf
set_option maxRecDepth 100000

theorem comp_noD {l : List Sp} {u : Nat} (h : CuV l u) (hk : kindC l ≠ 2) : ∀ (c : UInt8) (z : List Atm), restC l u = .D c :: z → False := by
  intro c z e
  rcases kind_rest h with ⟨_, _, h3⟩ | ⟨_, _, r, h3⟩ | ⟨h1, _⟩ | ⟨_, _, d, r, h3⟩
  · rw [h3] at e; cases e
  · rw [h3] at e; cases e
  · exact hk h1
  · rw [h3] at e; cases e
theorem bL_eq (s t : ByteArray) : (s.toList == t.toList) = decide (bL s = bL t) := by
  rw [ByteArray.toList_eq, ByteArray.toList_eq]
  show (bL s == bL t) = _
  by_cases h : bL s = bL t
  · rw [decide_eq_true h, beq_iff_eq]; exact h
  · rw [decide_eq_false h, beq_eq_false_iff_ne]; exact h
/-- How the loop of Compose stands. -/
structure CoP (X0 Y0 : List Atm) (N : Nat) (l1 : List Sp) (u1 : Nat) (l2 : List Sp) (u2 : Nat) (A : List Atm) : Prop where
  v1 : CuV l1 u1
  v2 : CuV l2 u2
  cp : compA X0 Y0 = (compA (restC l1 u1) (restC l2 u2)).map (A ++ ·)
  ct : outA (restC l1 u1) = inA (restC l2 u2)
  bd : inA (restC l2 u2) ≤ 65536
  ln : A.length + (restC l1 u1).length + (restC l2 u2).length ≤ N
theorem map2_app (A B : List Atm) (o : Option (List Atm)) : (o.map (B ++ ·)).map (A ++ ·) = o.map ((A ++ B) ++ ·) := by
  cases o with
  | none => rfl
  | some x => simp [List.append_assoc]
section
variable {X0 Y0 : List Atm} {N : Nat} {l1 l2 : List Sp} {u1 u2 n : Nat} {A : List Atm} {s t : ByteArray} {l' k' : List Sp} {u' v' : Nat}
theorem chk1 {k : Nat} {a b : List Atm} (h : Chk k s n a b) (hk : k = 1) : a = List.replicate n .K ++ b := by
  rcases h with ⟨_, h⟩ | ⟨h, _⟩ | ⟨h, _⟩
  · exact h
  · omega
  · omega
theorem chk2 {k : Nat} {a b : List Atm} (h : Chk k s n a b) (hk : k = 2) : (bL s).length = n ∧ a = (bL s).map .D ++ b := by
  rcases h with ⟨h, _⟩ | ⟨_, h⟩ | ⟨h, _⟩
  · omega
  · exact h
  · omega
theorem chk3 {k : Nat} {a b : List Atm} (h : Chk k s n a b) (hk : k = 3) : (bL s).length = n ∧ a = (bL s).map .P ++ b := by
  rcases h with ⟨h, _⟩ | ⟨h, _⟩ | ⟨_, h⟩
  · omega
  · omega
  · exact h
theorem co_x2 (h : CoP X0 Y0 N l1 u1 l2 u2 A) (ht : TkR l1 u1 n s l' u') (hk : kindC l1 = 2) : CoP X0 Y0 N l' u' l2 u2 (A ++ (bL s).map .D) ∧ s.size = n := by
  obtain ⟨h1, h2⟩ := chk2 ht.2.1 hk
  refine ⟨⟨ht.1, h.v2, ?_, ?_, h.bd, ?_⟩, by rw [← bL_len]; exact h1⟩
  · rw [h.cp, h2, comp_Ds, map2_app]
  · have := h.ct
    rw [h2, outA_append, (in_map_D _).2, Nat.zero_add] at this
    exact this
  · have := h.ln
    rw [h2] at this
    simp only [List.length_append, List.length_map] at this ⊢
    omega
theorem co_y3 (h : CoP X0 Y0 N l1 u1 l2 u2 A) (ht : TkR l2 u2 n s l' u') (hk1 : kindC l1 ≠ 2) (hk : kindC l2 = 3) : CoP X0 Y0 N l1 u1 l' u' (A ++ (bL s).map .P) ∧ s.size = n := by
  obtain ⟨h1, h2⟩ := chk3 ht.2.1 hk
  have e : inA (restC l2 u2) = inA (restC l' u') := by rw [h2, inA_append, (in_map_P _).1, Nat.zero_add]
  refine ⟨⟨h.v1, ht.1, ?_, h.ct.trans e, by have := h.bd; omega, ?_⟩, by rw [← bL_len]; exact h1⟩
  · rw [h.cp, h2, comp_Ps _ _ _ (comp_noD h.v1 hk1), map2_app]
  · have := h.ln
    rw [h2] at this
    simp only [List.length_append, List.length_map] at this ⊢
    omega
theorem co_11 (h : CoP X0 Y0 N l1 u1 l2 u2 A) (ht : TkR l1 u1 n s l' u') (hq : TkR l2 u2 n t k' v') (hk1 : kindC l1 = 1) (hk2 : kindC l2 = 1) : CoP X0 Y0 N l' u' k' v' (A ++ List.replicate n .K) ∧ n ≤ 65536 := by
  have h2 := chk1 ht.2.1 hk1
  have g2 := chk1 hq.2.1 hk2
  have hb := h.bd
  rw [g2, inA_append, (in_rep_K n).1] at hb
  refine ⟨⟨ht.1, hq.1, ?_, ?_, by omega, ?_⟩, by omega⟩
  · rw [h.cp, h2, g2, comp_KK, map2_app]
  · have := h.ct
    rw [h2, g2, outA_append, inA_append, (in_rep_K n).1, (in_rep_K n).2] at this
    omega
  · have := h.ln
    rw [h2, g2] at this
    simp only [List.length_append, List.length_replicate] at this ⊢
    omega
theorem co_12 (h : CoP X0 Y0 N l1 u1 l2 u2 A) (ht : TkR l1 u1 n s l' u') (hq : TkR l2 u2 n t k' v') (hk1 : kindC l1 = 1) (hk2 : kindC l2 = 2) : CoP X0 Y0 N l' u' k' v' (A ++ (bL t).map .D) ∧ t.size = n := by
  have h2 := chk1 ht.2.1 hk1
  obtain ⟨g1, g2⟩ := chk2 hq.2.1 hk2
  have hb := h.bd
  rw [g2, inA_append, (in_map_D _).1] at hb
  rw [← g1] at h2
  refine ⟨⟨ht.1, hq.1, ?_, ?_, by omega, ?_⟩, by rw [← bL_len]; exact g1⟩
  · rw [h.cp, h2, g2, comp_KD, map2_app]
  · have := h.ct
    rw [h2, g2, outA_append, inA_append, (in_rep_K _).2, (in_map_D _).1] at this
    omega
  · have := h.ln
    rw [h2, g2] at this
    simp only [List.length_append, List.length_replicate, List.length_map] at this ⊢
    omega
theorem co_31 (h : CoP X0 Y0 N l1 u1 l2 u2 A) (ht : TkR l1 u1 n s l' u') (hq : TkR l2 u2 n t k' v') (hk1 : kindC l1 = 3) (hk2 : kindC l2 = 1) : CoP X0 Y0 N l' u' k' v' (A ++ (bL s).map .P) ∧ s.size = n := by
  obtain ⟨h1, h2⟩ := chk3 ht.2.1 hk1
  have g2 := chk1 hq.2.1 hk2
  rw [← h1] at g2
  have hb := h.bd
  rw [g2, inA_append, (in_rep_K _).1] at hb
  refine ⟨⟨ht.1, hq.1, ?_, ?_, by omega, ?_⟩, by rw [← bL_len]; exact h1⟩
  · rw [h.cp, h2, g2, comp_PK, map2_app]
  · have := h.ct
    rw [h2, g2, outA_append, inA_append, (in_rep_K _).1, (in_map_P _).2] at this
    omega
  · have := h.ln
    rw [h2, g2] at this
    simp only [List.length_append, List.length_replicate, List.length_map] at this ⊢
    omega
theorem co_32 (h : CoP X0 Y0 N l1 u1 l2 u2 A) (ht : TkR l1 u1 n s l' u') (hq : TkR l2 u2 n t k' v') (hk1 : kindC l1 = 3) (hk2 : kindC l2 = 2) : if bL s = bL t then CoP X0 Y0 N l' u' k' v' A else compA X0 Y0 = none := by
  obtain ⟨h1, h2⟩ := chk3 ht.2.1 hk1
  obtain ⟨g1, g2⟩ := chk2 hq.2.1 hk2
  have hb := h.bd
  rw [g2, inA_append, (in_map_D _).1] at hb
  have hc := h.cp
  rw [h2, g2, comp_PD _ _ _ _ (by omega)] at hc
  split
  · rename_i e
    rw [if_pos e] at hc
    refine ⟨ht.1, hq.1, hc, ?_, by omega, ?_⟩
    · have := h.ct
      rw [h2, g2, outA_append, inA_append, (in_map_D _).1, (in_map_P _).2] at this
      omega
    · have := h.ln
      rw [h2, g2] at this
      simp only [List.length_append, List.length_map] at this ⊢
      omega
  · rename_i e
    rw [if_neg e] at hc
    exact hc
theorem co_end (h : CoP X0 Y0 N l1 u1 l2 u2 A) (hk1 : kindC l1 = 0) (hk2 : kindC l2 ≠ 3) : compA X0 Y0 = some A := by
  have hc := h.cp
  have hct := h.ct
  rcases kind_rest h.v1 with ⟨_, _, h3⟩ | ⟨e, _⟩ | ⟨e, _⟩ | ⟨e, _⟩
  · rw [h3] at hc hct
    rcases kind_rest h.v2 with ⟨_, _, g3⟩ | ⟨_, _, r, g3⟩ | ⟨_, _, c, r, g3⟩ | ⟨e, _⟩
    · rw [g3] at hc
      rw [hc]; simp [compA]
    · rw [g3] at hct; simp only [outA, inA] at hct; omega
    · rw [g3] at hct; simp only [outA, inA] at hct; omega
    · omega
  · omega
  · omega
  · omega
theorem co_no0 (h : CoP X0 Y0 N l1 u1 l2 u2 A) (hk1 : kindC l1 ≠ 0) (hk1' : kindC l1 ≠ 2) : l1 ≠ [] ∧ l2 ≠ [] ∧ 0 < leftC u1 l1 ∧ 0 < leftC u2 l2 ∧ kindC l2 ≠ 0 := by
  have hct := h.ct
  have h0 : 0 < outA (restC l1 u1) ∧ 0 < leftC u1 l1 ∧ l1 ≠ [] := by
    rcases kind_rest h.v1 with ⟨e, _⟩ | ⟨_, q, r, h3⟩ | ⟨e, _⟩ | ⟨_, q, c, r, h3⟩
    · omega
    · rw [h3]; simp only [outA]; exact ⟨by omega, q, fun e => by rw [e] at q; exact absurd q (Nat.lt_irrefl 0)⟩
    · omega
    · rw [h3]; simp only [outA]; exact ⟨by omega, q, fun e => by rw [e] at q; exact absurd q (Nat.lt_irrefl 0)⟩
  rcases kind_rest h.v2 with ⟨e, _, g3⟩ | ⟨e, q, r, g3⟩ | ⟨e, q, c, r, g3⟩ | ⟨e, q, c, r, g3⟩
  · rw [g3] at hct; simp only [inA] at hct; omega
  all_goals exact ⟨h0.2.2, fun e2 => by rw [e2] at q; exact absurd q (Nat.lt_irrefl 0), h0.2.1, q, by omega⟩
theorem ne_of_kind {l : List Sp} (h : kindC l ≠ 0) : l ≠ [] := fun e => h (by rw [e]; rfl)
theorem kind_lt {l : List Sp} {u : Nat} (h : CuV l u) : kindC l = 0 ∨ kindC l = 1 ∨ kindC l = 2 ∨ kindC l = 3 := by
  rcases kind_rest h with h | h | h | h
  · exact .inl h.1
  · exact .inr (.inl h.1)
  · exact .inr (.inr (.inl h.1))
  · exact .inr (.inr (.inr h.1))
end
theorem st_mu {w0 W : World} {C1 C2 B b : Nat} {l1 l2 : List Sp} {u1 u2 : Nat} {m : Mk} (h : St1 w0 C1 C2 B b W l1 u1 l2 u2 m) : muC W C1 + muC W C2 = (l1.length * 1000000 - u1) + (l2.length * 1000000 - u2) := by
  obtain ⟨o1, c1, o2, c2, vo, vp, vd, h1, h2, _⟩ := h
  rw [mu_of h1, mu_of h2]
theorem row_caps {W : World} {b : Nat} {e : TypeId} {sz n c : Nat} {a : Option Addr} {xs : List Value} (h : W.ownsRow b e sz (.slice a n c) n xs) : n ≤ c ∧ c ≤ 9223372036854775807 := by
  rcases h.2 with ⟨e, h0⟩ | ⟨g', c', cur, e, hb, hg, h1, h2, h3, h4⟩
  · simp only [Value.slice.injEq] at e; omega
  · simp only [Value.slice.injEq] at e; unfold maxLen at h2; omega
/-- Where the loop of Compose stands. -/
def CoI (w0 : World) (C1 C2 B b : Nat) (X0 Y0 : List Atm) (W : World) : Prop :=
  ∃ l1 u1 l2 u2 A, St1 w0 C1 C2 B b W l1 u1 l2 u2 (fdL A mk0) ∧ CoP X0 Y0 300000 l1 u1 l2 u2 A
theorem st_low {w0 W : World} {C1 C2 B b : Nat} {l1 l2 : List Sp} {u1 u2 : Nat} {m : Mk} (h : St1 w0 C1 C2 B b W l1 u1 l2 u2 m) : Below w0.heap.size w0 W := by
  obtain ⟨o1, c1, o2, c2, vo, vp, vd, h1, _⟩ := h
  exact h1.2.2.1
/-- What a call of plain has told of a change. -/
def PlF (l : List Sp) (F T : Nat) : Prop := CuV l 0 ∧ inA (atL l) = F ∧ outA (atL l) = T ∧ F ≤ 65536 ∧ T ≤ 65536 ∧ l.length ≤ F + T ∧ (atL l).length ≤ F + T
theorem co_start {W : World} {a1 a2 : Option Addr} {p1 p2 : List Sp} {k1 k2 F T G : Nat} (r1 : RowAt W encS 3 a1 p1) (r2 : RowAt W encS 3 a2 p2) (i1 : p1.length ≤ k1 ∧ k1 ≤ 9223372036854775807) (i2 : p2.length ≤ k2 ∧ k2 ≤ 9223372036854775807) (h1 : PlF p1 F T) (h2 : PlF p2 T G) :
    CoI W W.heap.size (W.heap.size + 1) (W.heap.size + 1 + 1) (W.heap.size + 1 + 1 + 1) (atL p1) (atL p2)
      (((W.alloc (.cells #[.slice a1 p1.length k1, .int .i64 0] 119)).alloc (.cells #[.slice a2 p2.length k2, .int .i64 0] 119)).alloc (.cells #[.slice none 0 0, .int .i64 0, .slice none 0 0, .slice none 0 0] 96)) := by
  obtain ⟨v1, f1, t1, g1, g2, g3, g4⟩ := h1
  obtain ⟨v2, f2, t2, g5, g6, g7, g8⟩ := h2
  have b1 := (Below.refl W.heap.size W).alloc (Nat.le_refl _) (.cells #[.slice a1 p1.length k1, .int .i64 0] 119)
  have n1 := Blk.new W #[.slice a1 p1.length k1, .int .i64 0] 119
  obtain ⟨W1, hW1⟩ : ∃ X, W.alloc (.cells #[.slice a1 p1.length k1, .int .i64 0] 119) = X := ⟨_, rfl⟩
  have s1 : W1.heap.size = W.heap.size + 1 := by rw [← hW1]; simp
  rw [hW1] at b1 n1 ⊢
  have b2 := b1.alloc b1.size (.cells #[.slice a2 p2.length k2, .int .i64 0] 119)
  have n2 := Blk.new W1 #[.slice a2 p2.length k2, .int .i64 0] 119
  replace n1 := n1.alloc (.cells #[.slice a2 p2.length k2, .int .i64 0] 119)
  obtain ⟨W2, hW2⟩ : ∃ X, W1.alloc (.cells #[.slice a2 p2.length k2, .int .i64 0] 119) = X := ⟨_, rfl⟩
  have s2 : W2.heap.size = W.heap.size + 1 + 1 := by rw [← hW2]; simp [s1]
  rw [hW2] at b2 n2 n1 ⊢
  rw [s1] at n2
  have b3 := b2.alloc b2.size (.cells #[.slice none 0 0, .int .i64 0, .slice none 0 0, .slice none 0 0] 96)
  have n3 := Blk.new W2 #[.slice none 0 0, .int .i64 0, .slice none 0 0, .slice none 0 0] 96
  replace n1 := n1.alloc (.cells #[.slice none 0 0, .int .i64 0, .slice none 0 0, .slice none 0 0] 96)
  replace n2 := n2.alloc (.cells #[.slice none 0 0, .int .i64 0, .slice none 0 0, .slice none 0 0] 96)
  rw [s2] at n3
  refine ⟨p1, 0, p2, 0, [], ⟨a1, k1, a2, k2, .slice none 0 0, .slice none 0 0, .slice none 0 0, ⟨n1, r1, b3, Nat.le_refl _, i1.1, i1.2⟩, ⟨n2, r2, b3, by omega, i2.1, i2.2⟩, ⟨n3, World.ownsRow_nil _ _ _ _, World.ownsRow_nil _ _ _ _, World.ownsRow_nil _ _ _ _, .inl rfl, by omega, by simp [s2]⟩, by omega, by omega, by omega⟩, ⟨v1, v2, ?_, ?_, ?_, ?_⟩⟩
  · show compA (atL p1) (atL p2) = (compA ((atL p1).drop 0) ((atL p2).drop 0)).map ([] ++ ·)
    rw [List.drop_zero, List.drop_zero]
    cases compA (atL p1) (atL p2) <;> rfl
  · show outA ((atL p1).drop 0) = inA ((atL p2).drop 0)
    rw [List.drop_zero, List.drop_zero]; omega
  · show inA ((atL p2).drop 0) ≤ _
    rw [List.drop_zero]; omega
  · show 0 + ((atL p1).drop 0).length + ((atL p2).drop 0).length ≤ _
    rw [List.drop_zero, List.drop_zero]; omega
end Go.Proofs.YtjccoiephdopkaaDoor

/- Stage 27: Apply. -/
namespace Go.Proofs.YtjccoiephdopkaaDoor
set_option linter.unusedVariables false
set_option linter.unusedSimpArgs false
open Go Go.RowKit Go.Shelf
set_option maxRecDepth 100000

theorem run_Ks (n : Nat) (A : List Atm) (s : List UInt8) (h : n ≤ s.length) : runA (List.replicate n .K ++ A) s = (runA A (s.drop n)).map fun r => (s.take n ++ r.1, r.2) := by
  induction n generalizing s with
  | zero => cases hr : runA A s <;> simp [hr]
  | succ n ih =>
    cases s with
    | nil => simp at h
    | cons c s =>
      rw [List.replicate_succ, List.cons_append, runA, ih s (by simpa using h)]
      cases hr : runA A (s.drop n) <;> simp [hr]
theorem run_Ps (ps : List UInt8) (A : List Atm) (s : List UInt8) : runA (ps.map .P ++ A) s = (runA A s).map fun r => (ps ++ r.1, r.2) := by
  induction ps with
  | nil => cases hr : runA A s <;> simp [hr]
  | cons c ps ih =>
    rw [List.map_cons, List.cons_append, runA, ih]
    cases hr : runA A s <;> simp
theorem run_Ds (ds : List UInt8) (A : List Atm) (s : List UInt8) (h : ds.length ≤ s.length) : runA (ds.map .D ++ A) s = if s.take ds.length = ds then runA A (s.drop ds.length) else none := by
  induction ds generalizing s with
  | nil => simp
  | cons d ds ih =>
    cases s with
    | nil => simp at h
    | cons c s =>
      rw [List.map_cons, List.cons_append, runA, ih s (by simpa using h)]
      by_cases e : c = d
      · subst e; simp
      · simp [e]
theorem run_step {x : Sp} (hx : okSp x) (A : List Atm) (s : List UInt8) (h : inA (atS x) ≤ s.length) :
    runA (atS x ++ A) s = if s.take x.d.size = bL x.d then (runA A (s.drop (x.k.toNat + x.d.size))).map fun r => (s.take x.k.toNat ++ bL x.p ++ r.1, r.2) else none := by
  rw [(in_atS x).1] at h
  obtain ⟨k, d, p⟩ := x
  rcases kind_three k d p with h0 | ⟨h1, h2, h3, h4⟩ | ⟨h1, h2, h3, h4⟩ | ⟨h1, h2, h3, h4⟩
  · exact absurd h0 hx.1
  · subst h2; subst h3
    simp only [emp_size, Nat.add_zero] at h
    have e : atS ⟨k, .empty, .empty⟩ = List.replicate k.toNat .K := by simp [atS, bL_emp]
    rw [e, run_Ks _ _ _ h]
    simp [emp_size, bL_emp]
  · subst h1; subst h2
    have e : atS ⟨0, d, .empty⟩ = (bL d).map .D := by simp [atS, bL_emp]
    rw [e, run_Ds _ _ _ (by rw [bL_len]; simpa using h), bL_len]
    simp only [Int.toNat_zero, Nat.zero_add, List.take_zero, bL_emp, List.append_nil, List.nil_append]
    split
    · cases runA A (s.drop d.size) <;> rfl
    · rfl
  · subst h1; subst h2
    have e : atS ⟨0, .empty, p⟩ = (bL p).map .P := by simp [atS, bL_emp]
    rw [e, run_Ps]
    simp [emp_size, bL_emp]
/-- What Apply answers of a change of as many bytes. -/
def AppR (s : ByteArray) (l : List Sp) (e : Ending) : Prop :=
  (runA (atL l) (bL s) = none ∧ e = .returned (.tuple #[.string .empty, .int .i64 270])) ∨ ∃ t : ByteArray, runA (atL l) (bL s) = some (bL t, []) ∧ e = .returned (.tuple #[.string t, .int .i64 0])
theorem infoByte : (Tryd.prog.info? 5).map (fun i => (i.zero, i.size, i.bytes)) = some (some (.int .u8 0), 1, 1) := by kernel_rfl
/-- How the loop of Apply stands. -/
structure ApP (s : ByteArray) (l : List Sp) (k at' : Nat) (out : ByteArray) : Prop where
  le : k ≤ l.length
  rn : runA (atL l) (bL s) = (runA (atL (l.drop k)) ((bL s).drop at')).map fun r => (bL out ++ r.1, r.2)
  fr : at' + inA (atL (l.drop k)) = s.size
  ot : out.size + outA (atL (l.drop k)) ≤ 65536
theorem ap_step {s : ByteArray} {l : List Sp} {k at' : Nat} {out : ByteArray} {x : Sp} (h : ApP s l k at' out) (hx : l[k]? = some x) (ho : okSp x) :
    at' + x.d.size ≤ s.size ∧ at' + x.k.toNat ≤ s.size ∧ at' + x.k.toNat + x.d.size ≤ s.size ∧ out.size + x.k.toNat + x.p.size ≤ 65536 ∧
    if bL (s.extract at' (at' + x.d.size)) = bL x.d then ApP s l (k + 1) (at' + x.k.toNat + x.d.size) (out ++ s.extract at' (at' + x.k.toNat) ++ x.p) else runA (atL l) (bL s) = none := by
  have hlt := (List.getElem?_eq_some_iff.1 hx).1
  have hd : l.drop k = x :: l.drop (k + 1) := (List.drop_eq_getElem_cons hlt).trans (by rw [(List.getElem?_eq_some_iff.1 hx).2])
  obtain ⟨h1, h2, h3, h4⟩ := h
  rw [hd, atL_cons] at h2 h3 h4
  rw [inA_append, (in_atS x).1] at h3
  rw [outA_append, (in_atS x).2] at h4
  have hlen : ((bL s).drop at').length = s.size - at' := by rw [List.length_drop, bL_len]
  rw [run_step ho _ _ (by rw [hlen, (in_atS x).1]; omega)] at h2
  refine ⟨by omega, by omega, by omega, by omega, ?_⟩
  rw [bL_ext]
  split
  · rename_i e
    rw [if_pos e] at h2
    refine ⟨hlt, ?_, by omega, ?_⟩
    · rw [h2, List.drop_drop, show at' + (x.k.toNat + x.d.size) = at' + x.k.toNat + x.d.size by omega, bL_app, bL_app, bL_ext]
      cases runA (atL (l.drop (k + 1))) ((bL s).drop (at' + x.k.toNat + x.d.size)) <;> simp
    · have : (s.extract at' (at' + x.k.toNat)).size = x.k.toNat := by rw [ByteArray.size_extract]; omega
      rw [ByteArray.size_append, ByteArray.size_append, this]; omega
  · rename_i e
    rw [if_neg e] at h2
    exact h2
set_option maxHeartbeats 8000000 in
theorem apply_of (s : ByteArray) (l : List Sp) (o : Option Addr) (c T : Nat) (hn : l.length ≤ 9223372036854775807) (ho : OkS l) (hz : sizeG l 0 0 = some (s.size, T)) (w : World) (hr : RowAt w encS 3 o l) :
    Calls Tryd.prog 22 #[.string s, .slice o l.length c] w fun e w' => AppR s l e ∧ Below w.heap.size w w' := by
  obtain ⟨i0, hi, hz0, hz1, hz2⟩ := info_parts infoByte
  have cS := sizes_any l o c hn ho w hr
  rw [hz] at cS
  obtain ⟨f1, f2, f3⟩ := sizeG_in l 0 0 _ _ hz
  have f4 := plain_cu hz
  have hok : ∀ x ∈ l, okSp x := fun x hx => by
    have := mem_bd hx
    have hk := kind_pos (f3 x hx)
    obtain ⟨_, _, _, g1, g2, _⟩ := f4
    exact ⟨f3 x hx, hk, by omega, by omega, by omega⟩
  have hs6 : s.size ≤ 65536 := f4.2.2.2.1
  have hT6 : T ≤ 65536 := f4.2.2.2.2.1
  have hA0 : ApP s l 0 0 .empty := ⟨Nat.zero_le _, by rw [List.drop_zero, List.drop_zero]; cases runA (atL l) (bL s) <;> simp [bL_emp], by rw [List.drop_zero]; omega, by rw [List.drop_zero]; simp only [emp_size]; omega⟩
  have HR := Lib.hid (And.intro hr (And.intro hok hA0))
  have es : ((s.size : Int) == (s.size : Int)) = true := beq_self_eq_true _
  clear hr f1 f2 f3 f4 hok hA0 hz ho
  go_enter Tryd.func22, Tryd.ntmps22
  go_wp2_with (fail)
  refine cS.mono ?_
  rintro e W ⟨rfl, hB⟩
  simp only [szV]
  have HB := Lib.hid hB
  clear hB cS
  have hmk := run_make (P := Tryd.prog) W 46 5 i0 (.int .u8 0) Tryd.underlying46 hi hz0 .i64 .i64 0 T (by omega) (by omega) (by rw [hz2]; omega) (by omega)
  have hrow0 : (W.alloc (.cells (madeCells #[Value.int .u8 0] T) 5)).ownsRow w.heap.size 5 1 (.slice (some ⟨W.heap.size, 0, none⟩) 0 T) 0 (Lib.strCells .empty) :=
    ⟨rfl, .inr ⟨W.heap.size, T, _, rfl, HB.out.size, World.alloc_heap_new W _, by omega, by unfold maxLen; omega, by rw [size_madeCells]; simp, rfl⟩⟩
  have hb0 := HB.out.alloc HB.out.size (.cells (madeCells #[Value.int .u8 0] T) 5)
  have H0 := Lib.hid (And.intro hrow0 hb0)
  rw [hz1, show (Value.int .u8 0).cells = #[Value.int .u8 0] from rfl] at hmk
  have hmk' : (Instr.makeSlice 46 (.int .i64 0) (.int .i64 (T : Int))).run Tryd.prog W = .ok (.slice (some ⟨W.heap.size, 0, none⟩) 0 T) (W.alloc (.cells (madeCells #[Value.int .u8 0] T) 5)) := by
    simpa using hmk
  clear hrow0 hb0 hmk
  go_wp2
  go_loopw [9, 10, 32] (fun v a i X => ∃ (k at' : Nat) (out : ByteArray), i = .int .i64 k ∧ a = .int .i64 at' ∧ ApP s l k at' out ∧ X.ownsRow w.heap.size 5 1 v out.size (Lib.strCells out) ∧ Below w.heap.size w X) (fun _ _ i _ => l.length - (intOf i).toNat)
  case atStart => exact ⟨0, 0, .empty, rfl, rfl, HR.out.2.2, H0.out.1, H0.out.2⟩
  case round =>
    obtain ⟨k, at', out, rfl, rfl, hP, hown, hX⟩ := hrel
    have hk := hP.le
    by_cases hlt : k < l.length
    · obtain ⟨x, hx⟩ : ∃ x, l[k]? = some x := ⟨_, List.getElem?_eq_getElem hlt⟩
      obtain ⟨g, off, rfl, hc⟩ := HR.out.1.below encS_len (by decide) hX k x hx
      obtain ⟨q0, q1, q2⟩ := get3 (l := l) hc
      have hok := HR.out.2.1 x (List.mem_of_getElem? hx)
      obtain ⟨s1, s2, s3, s4, hst⟩ := ap_step hP hx hok
      obtain ⟨kk, d, p⟩ := x
      obtain ⟨kn, rfl⟩ : ∃ kn : Nat, kk = kn := ⟨kk.toNat, by have := hok.2.1; simp only at this; omega⟩
      simp only [Int.toNat_natCast] at s1 s2 s3 s4 hst q0 q1 q2
      have hd6 : d.size ≤ 65536 := hok.2.2.2.1
      have hkn6 : kn ≤ 65536 := by have := hok.2.2.1; simp only at this; omega
      have ho6 : out.size ≤ 65536 := by have := hP.ot; omega
      have hkl : (k : Int) < (l.length : Int) := by omega
      have j5 : IntKind.i64.wrap ((k : Int) + 1) = ((k + 1 : Nat) : Int) := by rw [IntWalk.i64_in _ (by omega)]; omega
      obtain ⟨A, hA⟩ : ∃ A, at' + d.size = A := ⟨_, rfl⟩
      obtain ⟨K, hK⟩ : ∃ K, at' + kn = K := ⟨_, rfl⟩
      obtain ⟨D, hD⟩ : ∃ D, kn + d.size = D := ⟨_, rfl⟩
      obtain ⟨E, hE⟩ : ∃ E, at' + D = E := ⟨_, rfl⟩
      have j1 : IntKind.i64.wrap ((at' : Int) + (d.size : Int)) = (A : Int) := by rw [IntWalk.i64_in _ (by omega)]; omega
      have j2 : IntKind.i64.wrap ((at' : Int) + (kn : Int)) = (K : Int) := by rw [IntWalk.i64_in _ (by omega)]; omega
      have j3 : IntKind.i64.wrap ((kn : Int) + (d.size : Int)) = (D : Int) := by rw [IntWalk.i64_in _ (by omega)]; omega
      have j4 : IntKind.i64.wrap ((at' : Int) + (D : Int)) = (E : Int) := by rw [IntWalk.i64_in _ (by omega)]; omega
      have b1 : (at' : Int) ≤ (A : Int) := by omega
      have b2 : (A : Int) ≤ (s.size : Int) := by omega
      have b3 : (at' : Int) ≤ (K : Int) := by omega
      have b4 : (K : Int) ≤ (s.size : Int) := by omega
      rw [hA] at hst
      rw [hK] at hst
      have hEe : K + d.size = E := by omega
      rw [hEe] at hst
      have hbe := bL_eq (s.extract at' A) d
      have hex : (s.extract at' K).size = kn := by rw [ByteArray.size_extract]; omega
      have n := Blk.new wr #[.int .i64 kn, .string d, .string p] 39
      have hb := (Below.refl wr.heap.size wr).alloc (Nat.le_refl _) (.cells #[.int .i64 kn, .string d, .string p] 39)
      have m1 := n.cell 1
      simp only [List.getElem?_toArray, List.getElem?_cons_succ, List.getElem?_cons_zero] at m1
      have HK := Lib.hid (And.intro hst (And.intro hown (And.intro hX (And.intro n (And.intro hb (And.intro hex s4))))))
      obtain ⟨ov, cv, rfl, _⟩ := own_slice hown
      by_cases heq : bL (s.extract at' A) = bL d
      · rw [decide_eq_true heq] at hbe
        have HE := Lib.hid heq
        clear hown hX hc hst n hb hP hx hA hK hD hE s1 s2 s3 s4 hex heq hEe hok
        go_wp2
        go_quiet (fail)
        generalize hU : World.drewN _ _ = U
        have hbU := HK.out.2.2.2.2.1.trans ((hU ▸ below_drewN _ _ : Below (wr.alloc (.cells #[.int .i64 kn, .string d, .string p] 39)).heap.size (wr.alloc (.cells #[.int .i64 kn, .string d, .string p] 39)) U).mono (by simp))
        have nU := HK.out.2.2.2.1.below' (hU ▸ below_drewN _ _ : Below (wr.alloc (.cells #[.int .i64 kn, .string d, .string p] 39)).heap.size (wr.alloc (.cells #[.int .i64 kn, .string d, .string p] 39)) U)
        obtain ⟨B, hBq⟩ : ∃ B, wr.heap.size = B := ⟨_, rfl⟩
        have hBu : w.heap.size ≤ U.heap.size := Nat.le_trans HK.out.2.2.1.size hbU.size
        have rU := own_below HK.out.2.1 hbU
        have HU := Lib.hid (And.intro (HK.out.2.2.1.trans (hbU.mono HK.out.2.2.1.size)) (And.intro rU nU))
        rw [hBq] at nU ⊢
        have u0 := nU.cell 0
        have u1 := nU.cell 1
        have u2 := nU.cell 2
        simp only [List.getElem?_toArray, List.getElem?_cons_succ, List.getElem?_cons_zero] at u0 u1 u2
        have NU := Lib.hid nU
        clear hU hbU nU hBq q0 q1 q2 m1
        go_wp2_with (first | (at_builtin; refine Lib.wpList_append_own_string _ rfl _ _ 46 9 rfl w.heap.size 5 i0 Tryd.underlying46 Tryd.underlying9 hi hz0 hz1 hz2 _ _ _ rfl r2 _ rfl (by have := HK.out.2.2.2.2.2; unfold maxLen; omega) (by have := HK.out.2.2.2.2.2; omega) (Nat.le_trans hBu g2.size) ?_; intro v3 w3 r3 g3 hz9; clear hz9; have n3 := n2.kept g3 (n2.not_row (by decide) r2); have y0 := n3.cell 0; have y1 := n3.cell 1; have y2 := n3.cell 2; simp only [List.getElem?_toArray, List.getElem?_cons_succ, List.getElem?_cons_zero] at y0 y1 y2) | (at_builtin; refine Lib.wpList_append_own_string _ rfl _ _ 46 9 rfl w.heap.size 5 i0 Tryd.underlying46 Tryd.underlying9 hi hz0 hz1 hz2 _ _ _ rfl rU _ rfl (by have := HK.out.2.2.2.2.2; unfold maxLen; omega) (by have := HK.out.2.2.2.2.2; omega) hBu ?_; intro v2 w2 r2 g2 hz9; clear hz9; have n2 := NU.out.kept g2 (Blk.not_row NU.out (by decide) rU); have z0 := n2.cell 0; have z1 := n2.cell 1; have z2 := n2.cell 2; simp only [List.getElem?_toArray, List.getElem?_cons_succ, List.getElem?_cons_zero] at z0 z1 z2))
        have HG := Lib.hid (And.intro r3 (And.intro g2 g3))
        clear r3 g2 g3
        go_simp
        go_roundw
        case rel =>
          have hst := HK.out.1
          rw [if_pos HE.out] at hst
          refine ⟨k + 1, by go_num, E, rfl, out ++ s.extract at' K ++ p, hst, ?_, (HU.out.1.grown HG.out.2.1 HU.out.1.size (fun r e => (rU.lt r e).1)).grown HG.out.2.2 (Nat.le_trans HU.out.1.size HG.out.2.1.size) (fun r e => (r2.lt r e).1)⟩
          rw [ByteArray.size_append, ByteArray.size_append, strCells_app, strCells_app]
          exact HG.out.1
        case measure => simp [intOf] <;> omega
      · rw [decide_eq_false heq] at hbe
        rw [if_neg heq] at hst
        have HE := Lib.hid hst
        clear hown hc hst n hP hx hA hK hD hE s1 s2 s3 s4 hex heq hEe hok
        go_wp2
        go_quiet (fail)
        generalize hU : World.drewN _ _ = U
        have hbU := HK.out.2.2.2.2.1.trans ((hU ▸ below_drewN _ _ : Below (wr.alloc (.cells #[.int .i64 kn, .string d, .string p] 39)).heap.size (wr.alloc (.cells #[.int .i64 kn, .string d, .string p] 39)) U).mono (by simp))
        have HU := Lib.hid (HK.out.2.2.1.trans (hbU.mono HK.out.2.2.1.size))
        clear hU hbU
        go_wp2
        refine bodyPost_ret (results_tmp2 rfl _ _ _) rfl ?_
        exact ⟨.inl ⟨HE.out, rfl⟩, HU.out⟩
    · obtain rfl : k = l.length := by omega
      have hend : runA (atL l) (bL s) = some (bL out, []) := by
        have h1 := hP.rn
        have h2 := hP.fr
        rw [List.drop_length] at h1 h2
        rw [h1]
        have h3 : (bL s).drop at' = [] := List.length_eq_zero_iff.1 (by rw [List.length_drop, bL_len]; simp only [atL, List.flatMap_nil, inA] at h2; omega)
        rw [h3]
        simp [atL, runA]
      have hconv := conv_own rfl hown
      have HX := Lib.hid (And.intro hX hend)
      clear hX hend hP hown
      go_wp2
      refine bodyPost_ret (results_tmp2 rfl _ _ _) rfl ?_
      exact ⟨.inr ⟨out, HX.out.2, rfl⟩, HX.out.1⟩
end Go.Proofs.YtjccoiephdopkaaDoor

/- Stage 27: Apply, whatever comes in; what is put together again. -/
namespace Go.Proofs.YtjccoiephdopkaaDoor
set_option linter.unusedVariables false
set_option linter.unusedSimpArgs false
open Go Go.RowKit Go.Shelf
set_option maxRecDepth 100000

/-- What Apply answers. -/
def appF (s : ByteArray) (l : List Sp) : ByteArray × Nat :=
  match sizeG l 0 0 with
  | none => (.empty, 2)
  | some (F, _) => if F ≠ s.size then (.empty, 5) else match runA (atL l) (bL s) with | none => (.empty, 270) | some r => (⟨⟨r.1⟩⟩, 0)
theorem bL_mk (s : ByteArray) : (⟨⟨bL s⟩⟩ : ByteArray) = s := bL_inj rfl
theorem bL_mk' (l : List UInt8) : bL ⟨⟨l⟩⟩ = l := rfl
theorem appF_ok {s : ByteArray} {l : List Sp} (h : (appF s l).2 = 0) : ∃ T, sizeG l 0 0 = some (s.size, T) ∧ runA (atL l) (bL s) = some (bL (appF s l).1, []) := by
  unfold appF at h ⊢
  cases hz : sizeG l 0 0 with
  | none => rw [hz] at h; simp at h
  | some ft =>
    obtain ⟨F, T⟩ := ft
    rw [hz] at h
    simp only at h ⊢
    by_cases hF : F = s.size
    · rw [if_neg (by simpa using hF)] at h ⊢
      subst hF
      cases hr : runA (atL l) (bL s) with
      | none => rw [hr] at h; simp at h
      | some r =>
        obtain ⟨r1, r2⟩ := r
        refine ⟨T, rfl, ?_⟩
        have h1 := (run_len hr).1
        have h2 := (sizeG_in l 0 0 _ _ hz).1
        rw [bL_len] at h1
        have : r2 = [] := List.length_eq_zero_iff.1 (by omega)
        subst this
        rfl
    · rw [if_pos hF] at h; simp at h
theorem appF_run {s : ByteArray} {l : List Sp} {T : Nat} {w : List UInt8} (hz : sizeG l 0 0 = some (s.size, T)) (hr : runA (atL l) (bL s) = some (w, [])) : appF s l = (⟨⟨w⟩⟩, 0) := by
  unfold appF
  rw [hz]
  simp only
  rw [if_neg (by simp), hr]
set_option maxHeartbeats 4000000 in
theorem apply_any (s : ByteArray) (l : List Sp) (o : Option Addr) (c : Nat) (hn : l.length ≤ 9223372036854775807) (hs : s.size ≤ 9223372036854775807) (ho : OkS l) (w : World) (hr : RowAt w encS 3 o l) :
    Calls Tryd.prog 22 #[.string s, .slice o l.length c] w fun e w' => e = .returned (.tuple #[.string (appF s l).1, .int .i64 (appF s l).2]) ∧ Below w.heap.size w w' := by
  cases hz : sizeG l 0 0 with
  | none =>
    have e : appF s l = (.empty, 2) := by unfold appF; rw [hz]
    rw [e]
    have cS := sizes_any l o c hn ho w hr
    rw [hz] at cS
    clear hr ho e
    go_enter Tryd.func22, Tryd.ntmps22
    go_wp2_with (fail)
    refine cS.mono ?_
    rintro e W ⟨rfl, hB⟩
    simp only [szV]
    have HB := Lib.hid hB
    clear hB cS
    go_wp2
    refine bodyPost_ret (results_tmp2 rfl _ _ _) rfl ?_
    exact ⟨rfl, HB.out⟩
  | some ft =>
    obtain ⟨F, T⟩ := ft
    by_cases hF : F = s.size
    · subst hF
      refine (apply_of s l o c T hn ho hz w hr).mono ?_
      rintro e w' ⟨h, hB⟩
      refine ⟨?_, hB⟩
      rcases h with ⟨h1, rfl⟩ | ⟨t, h1, rfl⟩
      · have : appF s l = (.empty, 270) := by unfold appF; rw [hz]; simp only; rw [if_neg (by simp), h1]
        rw [this]
        rfl
      · rw [appF_run hz h1, bL_mk]
        rfl
    · have e : appF s l = (.empty, 5) := by unfold appF; rw [hz]; simp only; rw [if_pos hF]
      rw [e]
      have cS := sizes_any l o c hn ho w hr
      rw [hz] at cS
      have e1 : ((s.size : Int) == (F : Int)) = false := by rw [beq_eq_false_iff_ne]; omega
      have e2 : (s.size == F) = false := by rw [beq_eq_false_iff_ne]; omega
      have HF := Lib.hid hF
      clear hr ho e hF
      go_enter Tryd.func22, Tryd.ntmps22
      go_wp2_with (fail)
      refine cS.mono ?_
      rintro e W ⟨rfl, hB⟩
      simp only [szV]
      have HB := Lib.hid hB
      clear hB cS
      go_wp2
      refine bodyPost_ret (results_tmp2 rfl _ _ _) rfl ?_
      exact ⟨rfl, HB.out⟩
/-- The one form of few bytes: its sizes, and that it may come in. -/
theorem nf_ok {A : List Atm} (hi : inA A ≤ 65536) (ho : outA A ≤ 65536) : sizeG (nfA A) 0 0 = some (inA A, outA A) ∧ OkS (nfA A) ∧ (nfA A).length ≤ 131072 := by
  obtain ⟨g1, g2⟩ := nf_eq A
  have i1 := g1.inn
  have i2 := g1.out
  have hA := at_len (atL (nfA A))
  have hl := len_le _ g2
  refine ⟨?_, fun x hx => ?_, by omega⟩
  · rw [sizeG_of _ 0 0 g2 (by omega) (by omega), i1, i2, Nat.zero_add, Nat.zero_add]
  · have := mem_bd hx
    have hk := kind_pos (g2 x hx)
    exact ⟨by omega, by omega, by omega, by omega⟩
theorem appF_nf {A : List Atm} {s : ByteArray} {w : List UInt8} (hr : runA A (bL s) = some (w, [])) (hs : s.size ≤ 65536) (hw : w.length ≤ 65536) : appF s (nfA A) = (⟨⟨w⟩⟩, 0) ∧ inA A = s.size ∧ outA A = w.length := by
  have h1 := run_len hr
  rw [bL_len] at h1
  simp only [List.length_nil, Nat.add_zero] at h1
  obtain ⟨h2, _⟩ := nf_ok (A := A) (by omega) (by omega)
  rw [← h1.1] at h2
  exact ⟨appF_run h2 (by rw [(nf_eq A).1.run]; exact hr), h1.1.symm, h1.2.symm⟩
theorem plain_run {l : List Sp} {s : ByteArray} {t : List UInt8} (h : runA (atL l) (bL s) = some (t, [])) : runA (atL (plainM l)) (bL s) = some (t, []) := by
  rw [plain_fd, (nf_eq (atL l)).1.run]; exact h
theorem nf_nf {A : List Atm} {s w : List UInt8} (h : runA A s = some (w, [])) : runA (atL (plainM (nfA A))) s = some (w, []) := by
  rw [plain_fd, (nf_eq _).1.run, (nf_eq A).1.run]; exact h
end Go.Proofs.YtjccoiephdopkaaDoor

/- Stage 27: where a change's rows begin and end. -/
namespace Go.Proofs.YtjccoiephdopkaaDoor
set_option linter.unusedVariables false
set_option linter.unusedSimpArgs false
open Go Go.RowKit Go.Shelf
set_option maxRecDepth 100000

def oK (n : Nat) : List Sp := if 0 < n then [⟨n, .empty, .empty⟩] else []
def oP (x : ByteArray) : List Sp := if 0 < x.size then [⟨0, .empty, x⟩] else []
def oD (x : ByteArray) : List Sp := if 0 < x.size then [⟨0, x, .empty⟩] else []
theorem nf_make (p M : Nat) (x y : ByteArray) : nfA (List.replicate p .K ++ (bL x).map .P ++ (bL y).map .D ++ List.replicate M .K) = endM (keepM M (dropsM y (putsM x (keepM p mk0)))) := by
  unfold nfA
  rw [fdL_app, fdL_app, fdL_app, ← keep_fd, ← puts_fd, ← drops_fd, ← keep_fd]
theorem emp_of {x : ByteArray} (h : ¬ 0 < x.size) : x = .empty := by apply bL_inj; rw [bL_nil (by omega)]; rfl
theorem emp_app2 (s : ByteArray) : ByteArray.empty ++ s = s := by apply bL_inj; rw [bL_app, bL_emp, List.nil_append]
theorem nf_shape (p M : Nat) (x y : ByteArray) : nfA (List.replicate p .K ++ (bL x).map .P ++ (bL y).map .D ++ List.replicate M .K) = if 0 < x.size ∨ 0 < y.size then oK p ++ oP x ++ oD y ++ oK M else oK (p + M) := by
  rw [nf_make]
  have e0 : keepM p mk0 = ⟨[], p, .empty, .empty⟩ := by rw [keepM_no (by decide)]; simp [mk0]
  rw [e0]
  have z : ByteArray.empty.size = 0 := rfl
  by_cases hx : 0 < x.size
  · have e1 : putsM x ⟨[], p, .empty, .empty⟩ = ⟨oK p, 0, x, .empty⟩ := by
      unfold putsM; rw [if_pos hx]; simp [rowM, oK, emp_app2]
    rw [e1, if_pos (.inl hx)]
    have e2 : dropsM y ⟨oK p, 0, x, .empty⟩ = ⟨oK p, 0, x, y⟩ := by
      unfold dropsM
      by_cases hy : 0 < y.size
      · rw [if_pos hy]; simp [rowM, emp_app2]
      · rw [if_neg hy]; simp [emp_app2]
    rw [e2]
    by_cases hM : 0 < M
    · rw [keepM_yes hM (by show 0 < x.size + y.size; omega)]
      simp [endM, gapM, rowM, oK, oP, oD, z, hM]
    · obtain rfl : M = 0 := by omega
      rw [keep_zero]
      simp [endM, gapM, rowM, oK, oP, oD, z]
  · obtain rfl := emp_of hx
    have e1 : putsM .empty ⟨[], p, .empty, .empty⟩ = ⟨[], p, .empty, .empty⟩ := by
      unfold putsM; rw [if_neg hx]; simp [emp_app2]
    rw [e1]
    by_cases hy : 0 < y.size
    · have e2 : dropsM y ⟨[], p, .empty, .empty⟩ = ⟨oK p, 0, .empty, y⟩ := by
        unfold dropsM; rw [if_pos hy]; simp [rowM, oK, emp_app2]
      rw [e2, if_pos (.inr hy)]
      by_cases hM : 0 < M
      · rw [keepM_yes hM (by show 0 < ByteArray.empty.size + y.size; omega)]
        simp [endM, gapM, rowM, oK, oP, oD, z, hM]
      · obtain rfl : M = 0 := by omega
        rw [keep_zero]
        simp [endM, gapM, rowM, oK, oP, oD, z]
    · obtain rfl := emp_of hy
      have e2 : dropsM .empty ⟨[], p, .empty, .empty⟩ = ⟨[], p, .empty, .empty⟩ := by
        unfold dropsM; rw [if_neg hy]; simp [emp_app2]
      rw [e2, keepM_no (by show ¬ 0 < ByteArray.empty.size + ByteArray.empty.size; decide), if_neg (by omega)]
      simp [endM, gapM, rowM, oK, z]

/-- How much a change's rows take in or give out. -/
def szF (b : Bool) (l : List Sp) : Nat := if b = true then inA (atL l) else outA (atL l)
theorem szF_app (b : Bool) (l k : List Sp) : szF b (l ++ k) = szF b l + szF b k := by
  unfold szF
  rw [atL_app]
  cases b
  · simpa using outA_append _ _
  · simpa using inA_append _ _
theorem szF_nil (b : Bool) : szF b [] = 0 := by cases b <;> rfl
/-- Every row of it begins and ends where P holds. -/
def PreS (b : Bool) (P : Nat → Prop) (l : List Sp) (a : Nat) : Prop := ∀ k, k ≤ l.length → P (a + szF b (l.take k))
theorem preS_app {b : Bool} {P : Nat → Prop} {l k : List Sp} {a : Nat} (h : PreS b P l a) (g : PreS b P k (a + szF b l)) : PreS b P (l ++ k) a := by
  intro n hn
  rw [List.length_append] at hn
  rw [List.take_append, szF_app, ← Nat.add_assoc]
  rcases Nat.lt_or_ge n l.length with hl | hl
  · have := h n (by omega)
    rw [show n - l.length = 0 by omega, List.take_zero, szF_nil, Nat.add_zero]
    exact this
  · rw [List.take_of_length_le hl]
    exact g (n - l.length) (by omega)
theorem preS_nil {b : Bool} {P : Nat → Prop} {a : Nat} (h : P a) : PreS b P [] a := fun k hk => by
  rw [List.take_nil, szF_nil]; exact h
theorem preS_one {b : Bool} {P : Nat → Prop} {x : Sp} {a : Nat} (h : P a) (g : P (a + szF b [x])) : PreS b P [x] a := fun k hk => by
  match k, hk with
  | 0, _ => rw [List.take_zero, szF_nil]; exact h
  | 1, _ => exact g
theorem at_one (x : Sp) : atL [x] = atS x := by simp [atL]
theorem inA_rep (n : Nat) : inA (List.replicate n .K) = n ∧ outA (List.replicate n .K) = n := by
  induction n with
  | zero => exact ⟨rfl, rfl⟩
  | succ n ih =>
    rw [List.replicate_succ]
    exact ⟨by show inA (List.replicate n .K) + 1 = _; omega, by show outA (List.replicate n .K) + 1 = _; omega⟩
theorem inA_P (l : List UInt8) : inA (l.map .P) = 0 ∧ outA (l.map .P) = l.length := by
  induction l with
  | nil => exact ⟨rfl, rfl⟩
  | cons c l ih => exact ⟨ih.1, by show outA (l.map .P) + 1 = _; rw [ih.2]; rfl⟩
theorem inA_D (l : List UInt8) : inA (l.map .D) = l.length ∧ outA (l.map .D) = 0 := by
  induction l with
  | nil => exact ⟨rfl, rfl⟩
  | cons c l ih => exact ⟨by show inA (l.map .D) + 1 = _; rw [ih.1]; rfl, ih.2⟩
theorem sz_step (x : Sp) : szF true [x] = x.k.toNat + x.d.size ∧ szF false [x] = x.k.toNat + x.p.size := by
  have e : atL [x] = atS x := at_one x
  have i := inA_rep x.k.toNat
  have j := inA_P (bL x.p)
  have k := inA_D (bL x.d)
  rw [bL_len] at j k
  constructor
  · show inA (atL [x]) = _
    rw [e]; unfold atS; rw [inA_append, inA_append, i.1, j.1, k.1]; omega
  · show outA (atL [x]) = _
    rw [e]; unfold atS; rw [outA_append, outA_append, i.2, j.2, k.2]; omega
theorem preS_oK {b : Bool} {P : Nat → Prop} {n a : Nat} (h : P a) (g : P (a + n)) : PreS b P (oK n) a ∧ szF b (oK n) = n := by
  unfold oK
  by_cases hn : 0 < n
  · rw [if_pos hn]
    have z := sz_step ⟨n, .empty, .empty⟩
    have e : szF b [(⟨n, .empty, .empty⟩ : Sp)] = n := by
      cases b
      · rw [z.2]; simp
      · rw [z.1]; simp
    exact ⟨preS_one h (by rw [e]; exact g), e⟩
  · obtain rfl : n = 0 := by omega
    rw [if_neg hn]
    exact ⟨preS_nil h, szF_nil b⟩
theorem preS_oP {b : Bool} {P : Nat → Prop} {x : ByteArray} {a : Nat} (h : P a) (g : P (a + if b = true then 0 else x.size)) : PreS b P (oP x) a ∧ szF b (oP x) = if b = true then 0 else x.size := by
  unfold oP
  by_cases hn : 0 < x.size
  · rw [if_pos hn]
    have z := sz_step ⟨0, .empty, x⟩
    have e : szF b [(⟨0, .empty, x⟩ : Sp)] = if b = true then 0 else x.size := by
      cases b
      · rw [z.2]; simp
      · rw [z.1]; simp
    exact ⟨preS_one h (by rw [e]; exact g), e⟩
  · rw [if_neg hn]
    have : x.size = 0 := by omega
    exact ⟨preS_nil h, by rw [szF_nil, this]; simp⟩
theorem preS_oD {b : Bool} {P : Nat → Prop} {x : ByteArray} {a : Nat} (h : P a) (g : P (a + if b = true then x.size else 0)) : PreS b P (oD x) a ∧ szF b (oD x) = if b = true then x.size else 0 := by
  unfold oD
  by_cases hn : 0 < x.size
  · rw [if_pos hn]
    have z := sz_step ⟨0, x, .empty⟩
    have e : szF b [(⟨0, x, .empty⟩ : Sp)] = if b = true then x.size else 0 := by
      cases b
      · rw [z.2]; simp
      · rw [z.1]; simp
    exact ⟨preS_one h (by rw [e]; exact g), e⟩
  · rw [if_neg hn]
    have : x.size = 0 := by omega
    exact ⟨preS_nil h, by rw [szF_nil, this]; simp⟩
/-- The rows of what is made begin and end at 0, p, the tail's begin and the end. -/
theorem nf_pre (b : Bool) (P : Nat → Prop) (p M : Nat) (x y : ByteArray) (h0 : P 0) (h1 : P p) (h2 : P (p + if b = true then y.size else x.size)) (h3 : P (p + (if b = true then y.size else x.size) + M)) :
    PreS b P (nfA (List.replicate p .K ++ (bL x).map .P ++ (bL y).map .D ++ List.replicate M .K)) 0 := by
  rw [nf_shape]
  split
  · have a1 := preS_oK (b := b) (P := P) (n := p) (a := 0) h0 (by rw [Nat.zero_add]; exact h1)
    have a2 := preS_oP (b := b) (P := P) (x := x) (a := p) h1 (by cases b <;> simp_all)
    have a3 := preS_oD (b := b) (P := P) (x := y) (a := p + if b = true then 0 else x.size) (by cases b <;> simp_all) (by cases b <;> simp_all)
    have a4 := preS_oK (b := b) (P := P) (n := M) (a := p + if b = true then y.size else x.size) h2 h3
    refine preS_app (preS_app (preS_app a1.1 ?_) ?_) ?_
    · rw [a1.2, Nat.zero_add]; exact a2.1
    · rw [szF_app, a1.2, a2.2, Nat.zero_add]; exact a3.1
    · rw [szF_app, szF_app, a1.2, a2.2, a3.2, Nat.zero_add]
      have e : p + (if b = true then 0 else x.size) + (if b = true then y.size else 0) = p + if b = true then y.size else x.size := by cases b <;> simp
      rw [e]; exact a4.1
  · rename_i hn
    have e1 : x.size = 0 := by omega
    have e2 : y.size = 0 := by omega
    refine (preS_oK (b := b) (P := P) (n := p + M) (a := 0) h0 ?_).1
    rw [e1, e2] at h3
    rw [Nat.zero_add]
    cases b <;> simpa using h3
end Go.Proofs.YtjccoiephdopkaaDoor

/- Stage 27: what is told of a nil sheet; texts of zeros; what is too long. -/
namespace Go.Proofs.YtjccoiephdopkaaDoor
set_option linter.unusedVariables false
set_option linter.unusedSimpArgs false
open Go Go.RowKit Go.Shelf
set_option maxRecDepth 100000

theorem send_nil (h r : Int) (v : Value) (w : World) : Calls Tryd.prog 13 #[.pointer none, .int .i64 h, .int .i64 r, v] w fun e w' => e = .returned (.tuple #[.slice none 0 0, .int .i64 1]) ∧ Below w.heap.size w w' := by
  go_enter Tryd.func13, Tryd.ntmps13
  go_wp2
  refine bodyPost_ret (results_tmp2 rfl _ _ _) rfl ?_
  exact ⟨rfl, Below.refl _ _⟩
theorem undo_nil (h : Int) (w : World) : Calls Tryd.prog 14 #[.pointer none, .int .i64 h] w fun e w' => e = .returned (.tuple #[.slice none 0 0, .int .i64 1]) ∧ Below w.heap.size w w' := by
  go_enter Tryd.func14, Tryd.ntmps14
  go_wp2
  refine bodyPost_ret (results_tmp2 rfl _ _ _) rfl ?_
  exact ⟨rfl, Below.refl _ _⟩
theorem at_nil (r : Int) (w : World) : Calls Tryd.prog 15 #[.pointer none, .int .i64 r] w fun e w' => e = .returned (.tuple #[.string .empty, .int .i64 1]) ∧ Below w.heap.size w w' := by
  go_enter Tryd.func15, Tryd.ntmps15
  go_wp2
  refine bodyPost_ret (results_tmp2 rfl _ _ _) rfl ?_
  exact ⟨rfl, Below.refl _ _⟩
theorem hand_nil (r : Int) (w : World) : Calls Tryd.prog 16 #[.pointer none, .int .i64 r] w fun e w' => e = .returned (.tuple #[.int .i64 0, .int .i64 1]) ∧ Below w.heap.size w w' := by
  go_enter Tryd.func16, Tryd.ntmps16
  go_wp2
  refine bodyPost_ret (results_tmp2 rfl _ _ _) rfl ?_
  exact ⟨rfl, Below.refl _ _⟩
theorem since_nil (r : Int) (w : World) : Calls Tryd.prog 17 #[.pointer none, .int .i64 r] w fun e w' => e = .returned (.tuple #[.slice none 0 0, .int .i64 1]) ∧ Below w.heap.size w w' := by
  go_enter Tryd.func17, Tryd.ntmps17
  go_wp2_with (fail)
  refine (at_nil _ _).mono ?_
  rintro e W1 ⟨rfl, hb⟩
  have HB := Lib.hid hb
  clear hb
  go_wp2
  refine bodyPost_ret (results_tmp2 rfl _ _ _) rfl ?_
  exact ⟨rfl, HB.out⟩
theorem follow_nil (a r : Int) (b : Bool) (w : World) : Calls Tryd.prog 18 #[.pointer none, .int .i64 a, .int .i64 r, .bool b] w fun e w' => e = .returned (.tuple #[.int .i64 0, .int .i64 1]) ∧ Below w.heap.size w w' := by
  go_enter Tryd.func18, Tryd.ntmps18
  go_wp2_with (fail)
  refine (at_nil _ _).mono ?_
  rintro e W1 ⟨rfl, hb⟩
  have HB := Lib.hid hb
  clear hb
  go_wp2
  refine bodyPost_ret (results_tmp2 rfl _ _ _) rfl ?_
  exact ⟨rfl, HB.out⟩
theorem rev_nil (w : World) : Calls Tryd.prog 21 #[.pointer none] w fun e w' => e = .returned (.int .i64 0) ∧ w' = w := by
  go_enter Tryd.func21, Tryd.ntmps21
  go_wp2
  go_ret
  exact ⟨rfl, rfl⟩
theorem rev_new (s : ByteArray) (B : Nat) (w : World) (h : Blk w B #[.string s, .slice none 0 0] 86) : Calls Tryd.prog 21 #[.pointer (some ⟨B, 0, none⟩)] w fun e w' => e = .returned (.int .i64 0) ∧ w' = w := by
  have c1 := h.cell 1
  simp only [List.getElem?_toArray, List.getElem?_cons_zero, List.getElem?_cons_succ] at c1
  clear h
  go_enter Tryd.func21, Tryd.ntmps21
  go_wp2
  go_ret
  exact ⟨rfl, rfl⟩
theorem new_long (s : ByteArray) (h : 65536 < s.size) (w : World) : Calls Tryd.prog 19 #[.string s] w fun e w' => e = .returned (.tuple #[.pointer none, .int .i64 3]) ∧ Below w.heap.size w w' := by
  have d : decide ((65536 : Int) < (s.size : Int)) = true := decide_eq_true (by omega)
  go_enter Tryd.func19, Tryd.ntmps19
  go_wp2
  refine bodyPost_ret (results_tmp2 rfl _ _ _) rfl ?_
  exact ⟨rfl, Below.refl _ _⟩
theorem new_ok (s : ByteArray) (h : s.size ≤ 65536) (w : World) : Calls Tryd.prog 19 #[.string s] w fun e w' => e = .returned (.tuple #[.pointer (some ⟨w.heap.size, 0, none⟩), .int .i64 0]) ∧ Blk w' w.heap.size #[.string s, .slice none 0 0] 86 ∧ Below w.heap.size w w' := by
  have d : decide ((65536 : Int) < (s.size : Int)) = false := decide_eq_false (by omega)
  have n := Blk.new w #[.string s, .slice none 0 0] 86
  have hb := (Below.refl w.heap.size w).alloc (Nat.le_refl _) (.cells #[.string s, .slice none 0 0] 86)
  have H := Lib.hid (And.intro n hb)
  clear n hb
  go_enter Tryd.func19, Tryd.ntmps19
  go_wp2
  refine bodyPost_ret (results_tmp2 rfl _ _ _) rfl ?_
  exact ⟨rfl, H.out.1, H.out.2⟩
theorem between_long1 (s t : ByteArray) (h : 65536 < s.size) (w : World) : Calls Tryd.prog 20 #[.string s, .string t] w fun e w' => e = .returned (.tuple #[.slice none 0 0, .int .i64 3]) ∧ Below w.heap.size w w' := by
  have d : decide ((65536 : Int) < (s.size : Int)) = true := decide_eq_true (by omega)
  go_enter Tryd.func20, Tryd.ntmps20
  go_wp2
  refine bodyPost_ret (results_tmp2 rfl _ _ _) rfl ?_
  exact ⟨rfl, Below.refl _ _⟩
theorem between_long2 (s t : ByteArray) (h0 : s.size ≤ 65536) (h : 65536 < t.size) (w : World) : Calls Tryd.prog 20 #[.string s, .string t] w fun e w' => e = .returned (.tuple #[.slice none 0 0, .int .i64 3]) ∧ Below w.heap.size w w' := by
  have d0 : decide ((65536 : Int) < (s.size : Int)) = false := decide_eq_false (by omega)
  have d : decide ((65536 : Int) < (t.size : Int)) = true := decide_eq_true (by omega)
  go_enter Tryd.func20, Tryd.ntmps20
  go_wp2
  refine bodyPost_ret (results_tmp2 rfl _ _ _) rfl ?_
  exact ⟨rfl, Below.refl _ _⟩
theorem read_long (s : ByteArray) (h : 1048576 < s.size) (w : World) : Calls Tryd.prog 11 #[.string s] w fun e w' => e = .returned (.tuple #[.slice none 0 0, .agg #[.int .i64 3, .int .i64 1048576]]) ∧ Below w.heap.size w w' := by
  have d : decide ((1048576 : Int) < (s.size : Int)) = true := decide_eq_true (by omega)
  go_enter Tryd.func11, Tryd.ntmps11
  go_wp2
  refine bodyPost_ret (v := .tuple #[.slice none 0 0, .agg #[.int .i64 3, .int .i64 1048576]]) (by simp [results, Tryd.f11, go_sem]) rfl ⟨rfl, ?_⟩
  first | exact Below.refl _ _ | exact (Below.refl _ _).alloc (Nat.le_refl _) _
/-- A text of zeros. -/
def zB (n : Nat) : ByteArray := ⟨Array.replicate n 0⟩
theorem zB_size (n : Nat) : (zB n).size = n := Array.size_replicate
theorem infoZ8 : (Tryd.prog.info? 5).map (fun i => (i.zero, i.size, i.bytes)) = some (some (.int .u8 0), 1, 1) := by kernel_rfl
theorem zmade_one (v : Value) (n : Nat) : (madeCells #[v] n).toList = List.replicate n v := by
  apply List.ext_getElem?
  intro i
  simp only [madeCells]
  by_cases hi : i < n <;> simp [hi, List.getElem?_replicate, Nat.mod_one]
theorem make_zero (w : World) (n : Nat) (i : Int) (hi : i = n) (h : n ≤ 2000000) : (Instr.makeSlice 46 (.int .i64 i) (.int .i64 i)).run Tryd.prog w = .ok (.slice (some ⟨w.heap.size, 0, none⟩) n n) (w.alloc (.cells (madeCells #[.int .u8 0] n) 5)) := by
  subst hi
  obtain ⟨i0, hi, hz0, hz1, hz2⟩ := info_parts infoZ8
  have := run_make (P := Tryd.prog) w 46 5 i0 (.int .u8 0) Tryd.underlying46 hi hz0 .i64 .i64 n n (by omega) (by omega) (by rw [hz2]; omega) (by omega)
  rw [hz1, Nat.mul_one] at this
  exact this
theorem conv_zero (w : World) (n : Nat) (h : n ≤ 2000000) : (convert 46 9 (.slice (some ⟨w.heap.size, 0, none⟩) n n)).run Tryd.prog (w.alloc (.cells (madeCells #[.int .u8 0] n) 5)) = .ok (.string (zB n)) (w.alloc (.cells (madeCells #[.int .u8 0] n) 5)) := by
  have h1 := World.ownsRow_lit (base := w.heap.size) (e := 5) (size := 1) w (madeCells #[.int .u8 0] n) n (Nat.le_refl _) (by unfold maxLen; omega) (by rw [size_madeCells]; omega)
  rw [zmade_one] at h1
  have e : Lib.strCells (zB n) = List.replicate n (.int .u8 0) := by
    unfold Lib.strCells zB
    simp
  rw [← e] at h1
  exact conv_own (zB_size n) h1
/-- The change that drops a whole text. -/
theorem drop_all {s : ByteArray} {p M : Nat} (h : BnK s .empty p M) (hs : 0 < s.size) : nfA (bnA s .empty p M) = [⟨0, s, .empty⟩] := by
  have h1 := bnk_le h
  have e0 : ByteArray.empty.size = 0 := rfl
  obtain rfl : p = 0 := by omega
  obtain rfl : M = 0 := by omega
  unfold bnA
  rw [nf_shape]
  have e1 : (ByteArray.empty.extract 0 (ByteArray.empty.size - 0)).size = 0 := by rw [ByteArray.size_extract]; rfl
  have e2 : s.extract 0 (s.size - 0) = s := by rw [Nat.sub_zero]; simp
  rw [e2, if_pos (.inr hs)]
  unfold oK oP oD
  rw [if_neg (Nat.lt_irrefl 0), if_neg (by omega), if_pos hs]
  rfl
theorem rowN1 {w : World} {g : Nat} {t : TypeId} {o1 : Option Addr} {l1 : List Sp} {c1 : Nat} (h : w.heap[g]? = some (.cells #[.slice o1 l1.length c1] t (0, 0))) : RowAt w encC 1 (some ⟨g, 0, none⟩) [⟨o1, l1, c1⟩] := by
  intro i x hi
  have hl : i < 1 := (List.getElem?_eq_some_iff.1 hi).1
  refine ⟨g, 0, rfl, fun j hj => ?_⟩
  have hc : ∀ o, w.cell? ⟨g, o, none⟩ = (#[.slice o1 l1.length c1] : Array Value)[o]? := fun o => Blk.cell (t := t) h o
  rw [hc]
  match i, hl, hi, j, hj with
  | 0, _, hi, 0, _ => cases hi; rfl
theorem mayN1 (o1 : Option Addr) (l1 : List Sp) (c1 : Nat) (hn1 : l1.length ≤ 9223372036854775807) (ho1 : OkS l1) (w : World) (hr1 : RowAt w encS 3 o1 l1) :
    Calls Tryd.prog 40 #[.slice (some ⟨w.heap.size, 0, none⟩) 1 1] (w.alloc (.cells #[.slice o1 l1.length c1] 22)) fun e w' => e = .returned (.bool (sizeG l1 0 0).isSome) ∧ Below w.heap.size w w' := by
  have hb := (Below.refl w.heap.size w).alloc (Nat.le_refl _) (.cells #[.slice o1 l1.length c1] 22)
  refine (may_any [⟨o1, l1, c1⟩] (some ⟨w.heap.size, 0, none⟩) 1 (by simp) _ (rowN1 (World.alloc_heap_new w _)) ?_).mono ?_
  · intro x hx
    simp only [List.mem_cons, List.not_mem_nil, or_false] at hx
    subst hx
    exact ⟨hn1, ho1, hr1.below encS_len (by decide) hb⟩
  · rintro e w' ⟨rfl, hb2⟩
    exact ⟨by simp [mayB], hb.trans (hb2.mono (by simp))⟩
/-- A change that may not be is not sent. -/
theorem send_bad (B : Nat) (r : Int) (o : Option Addr) (l : List Sp) (c : Nat) (hn : l.length ≤ 9223372036854775807) (ho : OkS l) (hz : sizeG l 0 0 = none) (w : World) (hr : RowAt w encS 3 o l) :
    Calls Tryd.prog 13 #[.pointer (some ⟨B, 0, none⟩), .int .i64 0, .int .i64 r, .slice o l.length c] w fun e w' => e = .returned (.tuple #[.slice none 0 0, .int .i64 2]) ∧ Below w.heap.size w w' := by
  have cM := mayN1 o l c hn ho w hr
  rw [hz] at cM
  clear hr ho hz
  go_enter Tryd.func13, Tryd.ntmps13
  go_wp2_with (fail)
  refine cM.mono ?_
  rintro e W1 ⟨rfl, hb⟩
  simp only [Option.isSome]
  have HB := Lib.hid hb
  clear hb cM
  go_wp2
  refine bodyPost_ret (results_tmp2 rfl _ _ _) rfl ?_
  exact ⟨rfl, HB.out⟩
end Go.Proofs.YtjccoiephdopkaaDoor

/- Stage 27: Apply at the law's constant; live. -/
namespace Go.Proofs.YtjccoiephdopkaaDoor
set_option linter.unusedVariables false
set_option linter.unusedSimpArgs false
open Go Go.RowKit Go.Shelf
set_option maxRecDepth 100000

def L3 : List Sp := [⟨1, .empty, .empty⟩, ⟨0, ⟨#[98]⟩, .empty⟩, ⟨0, .empty, ⟨#[99]⟩⟩]
theorem sizeL3 : sizeG L3 0 0 = some (2, 2) := by rfl
theorem okL3 : OkS L3 := by
  intro x hx
  simp only [L3, List.mem_cons, List.not_mem_nil, or_false] at hx
  rcases hx with rfl | rfl | rfl
  all_goals exact ⟨by decide, by decide, by decide, by decide⟩
def stA : Nat → Nat × ByteArray
  | 0 => (0, .empty)
  | 1 => (1, ⟨#[97]⟩)
  | 2 => (2, ⟨#[97]⟩)
  | _ => (2, ⟨#[97, 99]⟩)
theorem infoByteH : (Tryd.prog.info? 5).map (fun i => (i.zero, i.size, i.bytes)) = some (some (.int .u8 0), 1, 1) := by kernel_rfl
set_option maxHeartbeats 4000000 in
theorem apply_live (o : Option Addr) (c : Nat) (w : World) (hr : RowAt w encS 3 o L3) :
    Calls Tryd.prog 22 #[.string ⟨#[97, 98]⟩, .slice o 3 c] w fun e w' => e = .returned (.tuple #[.string ⟨#[97, 99]⟩, .int .i64 0]) ∧ Below w.heap.size w w' := by
  obtain ⟨i0, hi, hz0, hz1, hz2⟩ := info_parts infoByteH
  have cS := sizes_any L3 o c (by decide) okL3 w hr
  rw [sizeL3] at cS
  have HR := Lib.hid hr
  clear hr
  go_enter Tryd.func22, Tryd.ntmps22
  go_wp2_with (fail)
  refine cS.mono ?_
  rintro e W ⟨rfl, hB⟩
  simp only [szV]
  have HB := Lib.hid hB
  clear hB cS
  have hmk := run_make (P := Tryd.prog) W 46 5 i0 (.int .u8 0) Tryd.underlying46 hi hz0 .i64 .i64 0 2 (by omega) (by omega) (by rw [hz2]; omega) (by omega)
  have hrow0 : (W.alloc (.cells (madeCells #[Value.int .u8 0] 2) 5)).ownsRow w.heap.size 5 1 (.slice (some ⟨W.heap.size, 0, none⟩) 0 2) 0 (Lib.strCells .empty) :=
    ⟨rfl, .inr ⟨W.heap.size, 2, _, rfl, HB.out.size, World.alloc_heap_new W _, by omega, by unfold maxLen; omega, by rw [size_madeCells], rfl⟩⟩
  have hb0 := HB.out.alloc HB.out.size (.cells (madeCells #[Value.int .u8 0] 2) 5)
  have H0 := Lib.hid (And.intro hrow0 hb0)
  clear hrow0 hb0
  go_wp2
  go_loopw [9, 10, 32] (fun v a i X => ∃ k : Nat, i = .int .i64 k ∧ k ≤ 3 ∧ a = .int .i64 (stA k).1 ∧ X.ownsRow w.heap.size 5 1 v (stA k).2.size (Lib.strCells (stA k).2) ∧ Below w.heap.size w X) (fun _ _ i _ => 3 - (intOf i).toNat)
  case atStart => exact ⟨0, rfl, by omega, rfl, H0.out.1, H0.out.2⟩
  case round =>
    obtain ⟨k, rfl, hk, rfl, hown, hX⟩ := hrel
    rcases (by omega : k = 0 ∨ k = 1 ∨ k = 2 ∨ k = 3) with hk | hk | hk | hk
    · obtain ⟨g, off, rfl, hc⟩ := HR.out.below encS_len (by decide) hX k ⟨1, .empty, .empty⟩ (by rw [hk]; rfl)
      obtain ⟨q0, q1, q2⟩ := get3 (l := L3) hc
      have hkl : (k : Int) < 3 := by omega
      have hkl2 : k < 3 := by omega
      have j5 : IntKind.i64.wrap ((k : Int) + 1) = ((k + 1 : Nat) : Int) := by rw [IntWalk.i64_in _ (by omega)]; omega
      have e1 : stA k = (0, .empty) := by rw [hk]; rfl
      have e2 : stA (k + 1) = (1, ⟨#[97]⟩) := by rw [hk]; rfl
      rw [e1] at hown ⊢
      simp only at q0 q1 q2 hown ⊢
      have n := Blk.new wr #[.int .i64 1, .string .empty, .string .empty] 39
      have hb := (Below.refl wr.heap.size wr).alloc (Nat.le_refl _) (.cells #[.int .i64 1, .string .empty, .string .empty] 39)
      have HK := Lib.hid (And.intro e2 (And.intro hown (And.intro hX (And.intro n hb))))
      obtain ⟨ov, cv, rfl, _⟩ := own_slice hown
      clear hown hX hc hk e1 e2 n hb
      have hx1 : ((⟨#[97, 98]⟩ : ByteArray).extract 1 2).toList = [98] := by rw [ByteArray.toList_eq]; rfl
      go_wp2
      go_quiet (fail)
      generalize hU : World.drewN _ _ = U
      have hbU := HK.out.2.2.2.2.trans ((hU ▸ below_drewN _ _ : Below (wr.alloc (.cells #[.int .i64 1, .string .empty, .string .empty] 39)).heap.size (wr.alloc (.cells #[.int .i64 1, .string .empty, .string .empty] 39)) U).mono (by simp))
      have nU := HK.out.2.2.2.1.below' (hU ▸ below_drewN _ _ : Below (wr.alloc (.cells #[.int .i64 1, .string .empty, .string .empty] 39)).heap.size (wr.alloc (.cells #[.int .i64 1, .string .empty, .string .empty] 39)) U)
      obtain ⟨B, hBq⟩ : ∃ B, wr.heap.size = B := ⟨_, rfl⟩
      have hBu : w.heap.size ≤ U.heap.size := Nat.le_trans HK.out.2.2.1.size hbU.size
      have rU := own_below HK.out.2.1 hbU
      have HU := Lib.hid (And.intro (HK.out.2.2.1.trans (hbU.mono HK.out.2.2.1.size)) (And.intro rU nU))
      rw [hBq] at nU ⊢
      have u0 := nU.cell 0
      have u1 := nU.cell 1
      have u2 := nU.cell 2
      simp only [List.getElem?_toArray, List.getElem?_cons_succ, List.getElem?_cons_zero] at u0 u1 u2
      have NU := Lib.hid nU
      clear hU hbU nU hBq q0 q1 q2
      go_wp2_with (first | (at_builtin; refine Lib.wpList_append_own_string _ rfl _ _ 46 9 rfl w.heap.size 5 i0 Tryd.underlying46 Tryd.underlying9 hi hz0 hz1 hz2 _ _ _ rfl r2 _ rfl (by unfold maxLen; decide) (by decide) (Nat.le_trans hBu g2.size) ?_; intro v3 w3 r3 g3 hz9; clear hz9; have n3 := n2.kept g3 (n2.not_row (by decide) r2); have y0 := n3.cell 0; have y1 := n3.cell 1; have y2 := n3.cell 2; simp only [List.getElem?_toArray, List.getElem?_cons_succ, List.getElem?_cons_zero] at y0 y1 y2) | (at_builtin; refine Lib.wpList_append_own_string _ rfl _ _ 46 9 rfl w.heap.size 5 i0 Tryd.underlying46 Tryd.underlying9 hi hz0 hz1 hz2 _ _ _ rfl rU _ rfl (by unfold maxLen; decide) (by decide) hBu ?_; intro v2 w2 r2 g2 hz9; clear hz9; have n2 := NU.out.kept g2 (Blk.not_row NU.out (by decide) rU); have z0 := n2.cell 0; have z1 := n2.cell 1; have z2 := n2.cell 2; simp only [List.getElem?_toArray, List.getElem?_cons_succ, List.getElem?_cons_zero] at z0 z1 z2))
      have HG := Lib.hid (And.intro r3 (And.intro g2 g3))
      clear r3 g2 g3
      go_simp
      trace_state
      go_roundw
      case rel =>
        refine ⟨_, _, _, _, _, _, ?_, rfl, rfl, rfl, rfl, rfl, rfl⟩
        exact ⟨k + 1, by go_num, by omega, by rw [HK.out.1]; rfl, by rw [HK.out.1]; exact HG.out.1, (HU.out.1.grown HG.out.2.1 HU.out.1.size (fun r e => (rU.lt r e).1)).grown HG.out.2.2 (Nat.le_trans HU.out.1.size HG.out.2.1.size) (fun r e => (r2.lt r e).1)⟩
      case measure => simp [intOf] <;> omega
    · obtain ⟨g, off, rfl, hc⟩ := HR.out.below encS_len (by decide) hX k ⟨0, ⟨#[98]⟩, .empty⟩ (by rw [hk]; rfl)
      obtain ⟨q0, q1, q2⟩ := get3 (l := L3) hc
      have hkl : (k : Int) < 3 := by omega
      have hkl2 : k < 3 := by omega
      have j5 : IntKind.i64.wrap ((k : Int) + 1) = ((k + 1 : Nat) : Int) := by rw [IntWalk.i64_in _ (by omega)]; omega
      have e1 : stA k = (1, ⟨#[97]⟩) := by rw [hk]; rfl
      have e2 : stA (k + 1) = (2, ⟨#[97]⟩) := by rw [hk]; rfl
      rw [e1] at hown ⊢
      simp only at q0 q1 q2 hown ⊢
      have n := Blk.new wr #[.int .i64 0, .string ⟨#[98]⟩, .string .empty] 39
      have hb := (Below.refl wr.heap.size wr).alloc (Nat.le_refl _) (.cells #[.int .i64 0, .string ⟨#[98]⟩, .string .empty] 39)
      have HK := Lib.hid (And.intro e2 (And.intro hown (And.intro hX (And.intro n hb))))
      obtain ⟨ov, cv, rfl, _⟩ := own_slice hown
      clear hown hX hc hk e1 e2 n hb
      have hx1 : ((⟨#[97, 98]⟩ : ByteArray).extract 1 2).toList = [98] := by rw [ByteArray.toList_eq]; rfl
      go_wp2
      go_quiet (fail)
      generalize hU : World.drewN _ _ = U
      have hbU := HK.out.2.2.2.2.trans ((hU ▸ below_drewN _ _ : Below (wr.alloc (.cells #[.int .i64 0, .string ⟨#[98]⟩, .string .empty] 39)).heap.size (wr.alloc (.cells #[.int .i64 0, .string ⟨#[98]⟩, .string .empty] 39)) U).mono (by simp))
      have nU := HK.out.2.2.2.1.below' (hU ▸ below_drewN _ _ : Below (wr.alloc (.cells #[.int .i64 0, .string ⟨#[98]⟩, .string .empty] 39)).heap.size (wr.alloc (.cells #[.int .i64 0, .string ⟨#[98]⟩, .string .empty] 39)) U)
      obtain ⟨B, hBq⟩ : ∃ B, wr.heap.size = B := ⟨_, rfl⟩
      have hBu : w.heap.size ≤ U.heap.size := Nat.le_trans HK.out.2.2.1.size hbU.size
      have rU := own_below HK.out.2.1 hbU
      have HU := Lib.hid (And.intro (HK.out.2.2.1.trans (hbU.mono HK.out.2.2.1.size)) (And.intro rU nU))
      rw [hBq] at nU ⊢
      have u0 := nU.cell 0
      have u1 := nU.cell 1
      have u2 := nU.cell 2
      simp only [List.getElem?_toArray, List.getElem?_cons_succ, List.getElem?_cons_zero] at u0 u1 u2
      have NU := Lib.hid nU
      clear hU hbU nU hBq q0 q1 q2
      go_wp2_with (first | (at_builtin; refine Lib.wpList_append_own_string _ rfl _ _ 46 9 rfl w.heap.size 5 i0 Tryd.underlying46 Tryd.underlying9 hi hz0 hz1 hz2 _ _ _ rfl r2 _ rfl (by unfold maxLen; decide) (by decide) (Nat.le_trans hBu g2.size) ?_; intro v3 w3 r3 g3 hz9; clear hz9; have n3 := n2.kept g3 (n2.not_row (by decide) r2); have y0 := n3.cell 0; have y1 := n3.cell 1; have y2 := n3.cell 2; simp only [List.getElem?_toArray, List.getElem?_cons_succ, List.getElem?_cons_zero] at y0 y1 y2) | (at_builtin; refine Lib.wpList_append_own_string _ rfl _ _ 46 9 rfl w.heap.size 5 i0 Tryd.underlying46 Tryd.underlying9 hi hz0 hz1 hz2 _ _ _ rfl rU _ rfl (by unfold maxLen; decide) (by decide) hBu ?_; intro v2 w2 r2 g2 hz9; clear hz9; have n2 := NU.out.kept g2 (Blk.not_row NU.out (by decide) rU); have z0 := n2.cell 0; have z1 := n2.cell 1; have z2 := n2.cell 2; simp only [List.getElem?_toArray, List.getElem?_cons_succ, List.getElem?_cons_zero] at z0 z1 z2))
      have HG := Lib.hid (And.intro r3 (And.intro g2 g3))
      clear r3 g2 g3
      go_simp
      trace_state
      go_roundw
      case rel =>
        refine ⟨_, _, _, _, _, _, ?_, rfl, rfl, rfl, rfl, rfl, rfl⟩
        exact ⟨k + 1, by go_num, by omega, by rw [HK.out.1]; rfl, by rw [HK.out.1]; exact HG.out.1, (HU.out.1.grown HG.out.2.1 HU.out.1.size (fun r e => (rU.lt r e).1)).grown HG.out.2.2 (Nat.le_trans HU.out.1.size HG.out.2.1.size) (fun r e => (r2.lt r e).1)⟩
      case measure => simp [intOf] <;> omega
    · obtain ⟨g, off, rfl, hc⟩ := HR.out.below encS_len (by decide) hX k ⟨0, .empty, ⟨#[99]⟩⟩ (by rw [hk]; rfl)
      obtain ⟨q0, q1, q2⟩ := get3 (l := L3) hc
      have hkl : (k : Int) < 3 := by omega
      have hkl2 : k < 3 := by omega
      have j5 : IntKind.i64.wrap ((k : Int) + 1) = ((k + 1 : Nat) : Int) := by rw [IntWalk.i64_in _ (by omega)]; omega
      have e1 : stA k = (2, ⟨#[97]⟩) := by rw [hk]; rfl
      have e2 : stA (k + 1) = (2, ⟨#[97, 99]⟩) := by rw [hk]; rfl
      rw [e1] at hown ⊢
      simp only at q0 q1 q2 hown ⊢
      have n := Blk.new wr #[.int .i64 0, .string .empty, .string ⟨#[99]⟩] 39
      have hb := (Below.refl wr.heap.size wr).alloc (Nat.le_refl _) (.cells #[.int .i64 0, .string .empty, .string ⟨#[99]⟩] 39)
      have HK := Lib.hid (And.intro e2 (And.intro hown (And.intro hX (And.intro n hb))))
      obtain ⟨ov, cv, rfl, _⟩ := own_slice hown
      clear hown hX hc hk e1 e2 n hb
      have hx1 : ((⟨#[97, 98]⟩ : ByteArray).extract 1 2).toList = [98] := by rw [ByteArray.toList_eq]; rfl
      go_wp2
      go_quiet (fail)
      generalize hU : World.drewN _ _ = U
      have hbU := HK.out.2.2.2.2.trans ((hU ▸ below_drewN _ _ : Below (wr.alloc (.cells #[.int .i64 0, .string .empty, .string ⟨#[99]⟩] 39)).heap.size (wr.alloc (.cells #[.int .i64 0, .string .empty, .string ⟨#[99]⟩] 39)) U).mono (by simp))
      have nU := HK.out.2.2.2.1.below' (hU ▸ below_drewN _ _ : Below (wr.alloc (.cells #[.int .i64 0, .string .empty, .string ⟨#[99]⟩] 39)).heap.size (wr.alloc (.cells #[.int .i64 0, .string .empty, .string ⟨#[99]⟩] 39)) U)
      obtain ⟨B, hBq⟩ : ∃ B, wr.heap.size = B := ⟨_, rfl⟩
      have hBu : w.heap.size ≤ U.heap.size := Nat.le_trans HK.out.2.2.1.size hbU.size
      have rU := own_below HK.out.2.1 hbU
      have HU := Lib.hid (And.intro (HK.out.2.2.1.trans (hbU.mono HK.out.2.2.1.size)) (And.intro rU nU))
      rw [hBq] at nU ⊢
      have u0 := nU.cell 0
      have u1 := nU.cell 1
      have u2 := nU.cell 2
      simp only [List.getElem?_toArray, List.getElem?_cons_succ, List.getElem?_cons_zero] at u0 u1 u2
      have NU := Lib.hid nU
      clear hU hbU nU hBq q0 q1 q2
      go_wp2_with (first | (at_builtin; refine Lib.wpList_append_own_string _ rfl _ _ 46 9 rfl w.heap.size 5 i0 Tryd.underlying46 Tryd.underlying9 hi hz0 hz1 hz2 _ _ _ rfl r2 _ rfl (by unfold maxLen; decide) (by decide) (Nat.le_trans hBu g2.size) ?_; intro v3 w3 r3 g3 hz9; clear hz9; have n3 := n2.kept g3 (n2.not_row (by decide) r2); have y0 := n3.cell 0; have y1 := n3.cell 1; have y2 := n3.cell 2; simp only [List.getElem?_toArray, List.getElem?_cons_succ, List.getElem?_cons_zero] at y0 y1 y2) | (at_builtin; refine Lib.wpList_append_own_string _ rfl _ _ 46 9 rfl w.heap.size 5 i0 Tryd.underlying46 Tryd.underlying9 hi hz0 hz1 hz2 _ _ _ rfl rU _ rfl (by unfold maxLen; decide) (by decide) hBu ?_; intro v2 w2 r2 g2 hz9; clear hz9; have n2 := NU.out.kept g2 (Blk.not_row NU.out (by decide) rU); have z0 := n2.cell 0; have z1 := n2.cell 1; have z2 := n2.cell 2; simp only [List.getElem?_toArray, List.getElem?_cons_succ, List.getElem?_cons_zero] at z0 z1 z2))
      have HG := Lib.hid (And.intro r3 (And.intro g2 g3))
      clear r3 g2 g3
      go_simp
      trace_state
      go_roundw
      case rel =>
        refine ⟨_, _, _, _, _, _, ?_, rfl, rfl, rfl, rfl, rfl, rfl⟩
        exact ⟨k + 1, by go_num, by omega, by rw [HK.out.1]; rfl, by rw [HK.out.1]; exact HG.out.1, (HU.out.1.grown HG.out.2.1 HU.out.1.size (fun r e => (rU.lt r e).1)).grown HG.out.2.2 (Nat.le_trans HU.out.1.size HG.out.2.1.size) (fun r e => (r2.lt r e).1)⟩
      case measure => simp [intOf] <;> omega
    · have e1 : stA k = (2, ⟨#[97, 99]⟩) := by rw [hk]; rfl
      have hkl : ¬ (k : Int) < 3 := by omega
      have hkl2 : ¬ k < 3 := by omega
      rw [e1] at hown
      simp only at hown
      have hconv := conv_own rfl hown
      have HK := Lib.hid hX
      clear hown hX hk e1
      go_wp2
      refine bodyPost_ret (results_tmp2 rfl _ _ _) rfl ?_
      exact ⟨rfl, HK.out⟩
theorem row9 {w : World} {g : Nat} {t : TypeId} (h : w.heap[g]? = some (.cells #[.int .i64 1, .string .empty, .string .empty, .int .i64 0, .string ⟨#[98]⟩, .string .empty, .int .i64 0, .string .empty, .string ⟨#[99]⟩] t (0, 0))) : RowAt w encS 3 (some ⟨g, 0, none⟩) L3 := by
  intro i x hi
  have hl : i < 3 := (List.getElem?_eq_some_iff.1 hi).1
  refine ⟨g, 0, rfl, fun j hj => ?_⟩
  have hc : ∀ o, w.cell? ⟨g, o, none⟩ = (#[.int .i64 1, .string .empty, .string .empty, .int .i64 0, .string ⟨#[98]⟩, .string .empty, .int .i64 0, .string .empty, .string ⟨#[99]⟩] : Array Value)[o]? := fun o => Blk.cell (t := t) h o
  rw [hc]
  rcases (by omega : i = 0 ∨ i = 1 ∨ i = 2) with rfl | rfl | rfl <;> cases hi <;> rcases (by omega : j = 0 ∨ j = 1 ∨ j = 2) with rfl | rfl | rfl <;> rfl
theorem live_any (w : World) : Calls Tryd.prog 6 #[] w fun e w' => e = .returned (.bool true) ∧ Below w.heap.size w w' := by
  have hb := (Below.refl w.heap.size w).alloc (Nat.le_refl _) (.cells #[.int .i64 1, .string .empty, .string .empty, .int .i64 0, .string ⟨#[98]⟩, .string .empty, .int .i64 0, .string .empty, .string ⟨#[99]⟩] 39)
  have cA := apply_live (some ⟨w.heap.size, 0, none⟩) 3 (w.alloc (.cells #[.int .i64 1, .string .empty, .string .empty, .int .i64 0, .string ⟨#[98]⟩, .string .empty, .int .i64 0, .string .empty, .string ⟨#[99]⟩] 39)) (row9 (World.alloc_heap_new w _))
  go_enter Tryd.func6, Tryd.ntmps6
  go_wp2_with (fail)
  refine cA.mono ?_
  rintro e W ⟨rfl, hB⟩
  have HB := Lib.hid (hb.trans (hB.mono (by simp)))
  clear hB hb cA
  go_wp2
  go_ret
  exact ⟨rfl, HB.out⟩
end Go.Proofs.YtjccoiephdopkaaDoor

/- A region that draws its order, only reads, and is one chain for its greatest part: the lexical walk, with a cheap check. -/
namespace Go.Proofs.YtjccoiephdopkaaDoor
set_option linter.unusedVariables false
set_option linter.unusedSimpArgs false
open Go

section
variable {P : Program} {ops : Array Oper} {md : Region.Mode} {C : World → Prop}

/-- Up to K an operation waits for none behind it; and each but the first waits for the one ahead of it, or for one from K on. -/
def linAt (md : Region.Mode) (ops : Array Oper) (K j : Nat) : Bool :=
  match ops[j]? with
  | none => false
  | some o => (decide (K < j) || o.after.all fun e => !Region.binds md e || decide (e.on < j)) && (j == 0 || o.after.any fun e => Region.binds md e && (decide (K ≤ e.on) || decide (j - 1 ≤ e.on)))
def linB (md : Region.Mode) (ops : Array Oper) (K : Nat) : Bool := decide (K < ops.size) && (List.range ops.size).all (linAt md ops K)
/-- Those below k have come up. -/
def Upt (n k : Nat) (listed : Array Bool) : Prop := listed.size = n ∧ ∀ j, j < n → listed[j]? = some (decide (j < k))
def upT (n k : Nat) : Array Bool := (List.replicate k true ++ List.replicate (n - k) false).toArray

theorem Upt.getD {n k : Nat} {listed : Array Bool} (h : Upt n k listed) (j : Nat) (b : Bool) : listed.getD j b = if j < n then decide (j < k) else b := by
  rw [Array.getD_eq_getD_getElem?]
  by_cases hj : j < n
  · rw [h.2 j hj, if_pos hj]; rfl
  · rw [Array.getElem?_eq_none (by rw [h.1]; omega), if_neg hj]; rfl
theorem Upt.start (n : Nat) : Upt n 0 (Array.replicate n false) := by
  refine ⟨Array.size_replicate, fun j hj => ?_⟩
  rw [Array.getElem?_replicate, if_pos hj]
  simp
theorem Upt.next {n k : Nat} {listed : Array Bool} (h : Upt n k listed) (hk : k < n) : Upt n (k + 1) (listed.setIfInBounds k true) := by
  refine ⟨by rw [Array.size_setIfInBounds]; exact h.1, fun j hj => ?_⟩
  rw [Array.getElem?_setIfInBounds]
  by_cases e : k = j
  · subst e
    rw [if_pos rfl, if_pos (by rw [h.1]; exact hj)]
    simp
  · rw [if_neg e, h.2 j hj]
    congr 1
    exact decide_eq_decide.2 (by omega)
theorem Upt.eq {n k : Nat} {listed : Array Bool} (h : Upt n k listed) (hk : k ≤ n) : listed = upT n k := by
  refine Array.ext_getElem? fun j => ?_
  have e : (upT n k)[j]? = (List.replicate k true ++ List.replicate (n - k) false)[j]? := by unfold upT; simp
  rw [e]
  by_cases hj : j < n
  · rw [h.2 j hj]
    by_cases hjk : j < k
    · rw [List.getElem?_append_left (by rw [List.length_replicate]; exact hjk), List.getElem?_replicate, if_pos hjk]
      simp [hjk]
    · rw [List.getElem?_append_right (by rw [List.length_replicate]; omega), List.length_replicate, List.getElem?_replicate, if_pos (by omega)]
      simp [hjk]
  · rw [Array.getElem?_eq_none (by rw [h.1]; omega), List.getElem?_eq_none (by rw [List.length_append, List.length_replicate, List.length_replicate]; omega)]

theorem filt_one (n k : Nat) (h : k < n) : (List.range n).filter (fun i => i == k) = [k] := by
  induction n with
  | zero => omega
  | succ n ih =>
    rw [List.range_succ, List.filter_append]
    by_cases e : n = k
    · subst e
      have : (List.range n).filter (fun i => i == n) = [] := by
        rw [List.filter_eq_nil_iff]
        intro i hi
        have := List.mem_range.1 hi
        simp; omega
      rw [this]
      simp
    · rw [ih (by omega)]
      simp [e]

theorem ready_lin {K k : Nat} {listed : Array Bool} (hL : linB md ops K = true) (hk : k ≤ K) (h : Upt ops.size k listed) : Region.ready md ops listed = [k] := by
  unfold linB at hL
  rw [Bool.and_eq_true, decide_eq_true_eq, List.all_eq_true] at hL
  obtain ⟨hK, hA⟩ := hL
  unfold Region.ready
  rw [← filt_one ops.size k (by omega)]
  apply List.filter_congr
  intro i hi
  have hin := List.mem_range.1 hi
  have hl := hA i hi
  unfold linAt at hl
  rw [h.getD, if_pos hin]
  rw [Array.getElem?_eq_getElem hin] at hl ⊢
  simp only [Option.map_some, Option.getD_some, Bool.and_eq_true] at hl ⊢
  obtain ⟨h1, h2⟩ := hl
  rcases Nat.lt_trichotomy i k with hlt | heq | hgt
  · rw [decide_eq_true hlt]
    simp; omega
  · subst heq
    have e1 : decide (i < i) = false := decide_eq_false (Nat.lt_irrefl _)
    rw [e1, beq_self_eq_true, Bool.not_false, Bool.true_and, Array.all_eq_true_iff_forall_mem]
    intro e he
    rw [decide_eq_false (by omega), Bool.false_or, Array.all_eq_true_iff_forall_mem] at h1
    have h3 := h1 e he
    rw [Bool.or_eq_true] at h3 ⊢
    refine h3.imp id fun h4 => ?_
    have h5 := of_decide_eq_true h4
    rw [h.getD, if_pos (by omega)]
    exact decide_eq_true h5
  · have e2 : (i == k) = false := by simp; omega
    have e0 : (i == 0) = false := by simp; omega
    rw [e0, Bool.false_or] at h2
    obtain ⟨e, he, hb⟩ := Array.any_eq_true'.1 h2
    rw [Bool.and_eq_true, Bool.or_eq_true, decide_eq_true_eq, decide_eq_true_eq] at hb
    have e3 : ops[i].after.all (fun e => !Region.binds md e || listed.getD e.on false) = false := by
      rw [Bool.eq_false_iff, ne_eq, Array.all_eq_true_iff_forall_mem]
      intro hall
      have h4 := hall e he
      rw [hb.1, Bool.not_true, Bool.false_or, h.getD] at h4
      split at h4
      · have h5 := of_decide_eq_true h4
        omega
      · cases h4
    rw [e3, e2, Bool.and_false]

theorem wpAnyQ_chain {Q : Act → Prop} {K : Nat} (hs : Region.noSelect ops = true) (hL : linB md ops K = true) (hX : Region.lexFrom md ops (ops.size - (K + 1)) (K + 1) (upT ops.size (K + 1)) = true) :
    ∀ (l : List Oper) (k : Nat) (listed : Array Bool) (a : Act), k + l.length = ops.size → k ≤ K + 1 → (∀ j, l[j]? = ops[k + j]?) → Upt ops.size k listed → wpQuiet P ops C Q l a → wpAnyQ P md ops C Q l.length listed a := by
  have hK : K < ops.size := by
    unfold linB at hL
    rw [Bool.and_eq_true, decide_eq_true_eq] at hL
    exact hL.1
  intro l
  induction l with
  | nil =>
    intro k listed a hn hk hl hu h
    have e : k = K + 1 := by have : k + 0 = ops.size := hn; omega
    subst e
    rw [hu.eq (by omega)]
    refine wpAnyQ_lex hs [] (K + 1) _ a hl ?_ h
    have : ([] : List Oper).length = ops.size - (K + 1) := by have : K + 1 + 0 = ops.size := hn; show 0 = _; omega
    rw [this]; exact hX
  | cons o l ih =>
    intro k listed a hn hk hl hu h
    by_cases e : k = K + 1
    · subst e
      rw [hu.eq (by omega)]
      refine wpAnyQ_lex hs (o :: l) (K + 1) _ a hl ?_ h
      have : (o :: l).length = ops.size - (K + 1) := by omega
      rw [this]; exact hX
    · have hr := ready_lin hL (by omega : k ≤ K) hu
      have h0 : ops[k]? = some o := by simpa using (hl 0).symm
      show wpAnyQ P md ops C Q (l.length + 1) listed a
      refine ⟨fun h1 => (by rw [hr] at h1; cases h1), fun i hi => ?_⟩
      rw [hr, List.mem_singleton] at hi
      subst hi
      have hst : qOp P ops C i (wpQuiet P ops C Q l) a := by unfold qOp; simp only [h0]; exact h
      rw [List.length_cons] at hn
      exact qOp_mono (fun a' h' => ih (i + 1) _ a' (by omega) (by omega) (fun j => by have := hl (j + 1); simpa [Nat.add_assoc, Nat.add_comm 1 j] using this) (hu.next (by omega)) h') hst

/-- A region of one chain up to K, walked in the order of the text. -/
theorem wp_region_chain {id : Nat} {Q : Exit → Act → World → Prop} {a : Act} {w : World} {l : List Oper} (K : Nat) (hm : P.follows .mixedOrders = true) (hs : Region.noSelect l.toArray = true) (hL : linB .any l.toArray K = true)
    (hX : Region.lexFrom .any l.toArray (l.length - (K + 1)) (K + 1) (upT l.length (K + 1)) = true)
    (h : wpQuiet P l.toArray (fun w' => ∃ n, w' = w.drewN n) (fun a' => ∀ w', (∃ n, w' = w.drewN n) → Q .normal a' w') l a) : (Code.region id l.toArray true).wp P Q a w := by
  have hC : ∃ n, ({ w with drawn := w.drawn + 1 } : World) = w.drewN n := ⟨1, rfl⟩
  refine wp_region_any hm (wpAny_of_quiet (C := fun w' => ∃ n, w' = w.drewN n) (Q := fun a' => ∀ w', (∃ n, w' = w.drewN n) → Q .normal a' w') (fun _ w' hw' h => h w' hw') _ _ _ _ hC ?_)
  have := wpAnyQ_chain (P := P) (C := fun w' => ∃ n, w' = w.drewN n) (md := .any) hs hL (by rw [List.size_toArray]; exact hX) l 0 (Array.replicate l.toArray.size false) a (by simp) (by omega) (by simp) (Upt.start _) h
  rw [List.size_toArray] at this ⊢
  exact this
end
end Go.Proofs.YtjccoiephdopkaaDoor
