/- Layer 3: what the iterator of class.Runs tells its caller. -/
import Derived.Test.YtfnngcecfjlfeaaRu1
import Derived.Test.YtfnngcecfjlfeaaRy
namespace Go.Proofs.Ytfnngcecfjlfeaa
set_option linter.unusedVariables false
set_option linter.unusedSimpArgs false
open Go Go.RowKit Go.Shelf
set_option maxRecDepth 100000
attribute [local go_sem] Oper.semAt_some

/-- The iterator may turn whatever lies in blocks of its own. -/
def FrT (_ : World) (_ : Nat) : Prop := True
/-- What the body of a round keeps for the iterator: what is its own. -/
def KpR (b : Nat) (X Y : World) : Prop := KeepsWalks X Y ∧ ∀ k, b ≤ k → k < X.heap.size → Y.heap[k]? = X.heap[k]?
theorem kpR_t {b : Nat} {X Y Z : World} (h : KpR b X Y) (g : KpR b Y Z) : KpR b X Z :=
  ⟨h.1.trans g.1, fun k hk hl => (g.2 k hk (Nat.lt_of_lt_of_le hl h.1.size)).trans (h.2 k hk hl)⟩
theorem kpR_from {b B : Nat} {X Y : World} (h : KpR b X Y) (hb : b ≤ B) : KeepsFrom B X Y :=
  ⟨h.1.size, fun k o hk ho _ => (h.2 k (Nat.le_trans hb hk) (Array.getElem?_eq_some_iff.1 ho).1).trans ho⟩
theorem kpR_B {b B : Nat} {X Y : World} (h : KpR b X Y) (hb : b ≤ B) (hB : B < X.heap.size) : KpB B X Y := ⟨h.1, h.2 B hb hB⟩
theorem kpR_blk {b B : Nat} {X Y : World} {cs : Array Value} {t : TypeId} (h : KpR b X Y) (hb : b ≤ B) (hB : Blk X B cs t) : Blk Y B cs t := (h.2 B hb hB.lt).trans hB
/-- A call of yield goes into a round as it is. -/
theorem yield_in {m m' l l' : Nat} {P : Program} {args : Array Value} {W : World} {R : Ending → World → Prop} (h : YieldAt Fence.wide m P l args W R) : YieldAt (Fence.wide.inRound l') m' P l args W R := by
  obtain ⟨fn, tmps, assign, body, hy, h1, h2⟩ := h
  exact ⟨fn, tmps, assign, body, hy, h1, fun c cs _ => h2 c cs (room_wide _)⟩
theorem yield_wide {m m' l : Nat} {P : Program} {args : Array Value} {W : World} {R : Ending → World → Prop} (h : YieldAt Fence.wide m P l args W R) : YieldAt Fence.wide m' P l args W R := by
  obtain ⟨fn, tmps, assign, body, hy, h1, h2⟩ := h
  exact ⟨fn, tmps, assign, body, hy, h1, fun c cs _ => h2 c cs (room_wide _)⟩

def rvV (r : Run3) : Value := .agg #[.int .i64 (r.1 : Nat), .int .i64 (r.2.1 : Nat), .int .i64 (r.2.2 : Nat)]
/-- Behind some pieces: T is told, r is open. -/
def After (s : ByteArray) (pre : List (Pos s)) (T : List Run3) (r : Run3) : Prop := ∀ ps, emits s (kd s) (0, 0, 0) (pre.map (·.1) ++ ps) = T ++ emits s (kd s) r ps
theorem after_nil (s : ByteArray) : After s [] [] (0, 0, 0) := fun ps => rfl
theorem after_same {s : ByteArray} {pre : List (Pos s)} {T : List Run3} {r : Run3} {x : Pos s} (h : After s pre T r) (hk : kd s x.1 = r.2.2) : After s (pre ++ [x]) T (r.1, x.1 + wd s x.1, r.2.2) := fun ps => by
  have := h (x.1 :: ps)
  rw [List.map_append, List.append_assoc]
  exact this.trans (by conv => lhs; rw [emits]; rw [if_pos hk])
theorem after_new {s : ByteArray} {pre : List (Pos s)} {T : List Run3} {r : Run3} {x : Pos s} (h : After s pre T r) (hk : kd s x.1 ≠ r.2.2) : After s (pre ++ [x]) (T ++ told r) (x.1, x.1 + wd s x.1, kd s x.1) := fun ps => by
  have := h (x.1 :: ps)
  rw [List.map_append, List.append_assoc]
  refine this.trans ?_
  conv => lhs; rw [emits]
  rw [if_neg hk, List.append_assoc]
theorem after_len {s : ByteArray} {pre : List (Pos s)} {T : List Run3} {r : Run3} (h : After s pre T r) : T.length ≤ pre.length + 1 := by
  have h1 := h []
  have h2 := emits_len s (kd s) (pre.map (·.1)) (0, 0, 0)
  rw [List.append_nil] at h1
  rw [h1, List.length_append, List.length_map] at h2
  omega

def RuI (s : ByteArray) (l S : Nat) (J : List Run3 → World → Prop) (pre : List (Pos s)) (X : World) : Prop :=
  ∃ (T : List Run3) (a b c : Nat), Boxed X S 69 (.func (.yield l) #[] #[]) ∧ Blk X (S + 1) #[.int .i64 a, .int .i64 b, .int .i64 c] 45 ∧ After s pre T (a, b, c) ∧ J T X
def RuX (s : ByteArray) (Jx : List Run3 → World → Prop) (c : Code) (pre : List (Pos s)) (X : World) : Prop :=
  c = .ret ∧ ∃ T, (∀ ps, T <+: emits s (kd s) (0, 0, 0) (pre.map (·.1) ++ ps)) ∧ Jx T X
theorem ruI_own {s : ByteArray} {l S base : Nat} {J : List Run3 → World → Prop} (hJ : AbX S FrT J) (hb : S + 3 ≤ base) : OwnFrom base (RuI s l S J) := by
  rintro pre X Y row ⟨T, a, b, c, h1, h2, h3, h4⟩ hg hr
  have hn : ∀ k, k < base → some k ≠ row := fun k hk e => by have := (hr k e.symm).1; omega
  exact ⟨T, a, b, c, (show Blk _ _ _ _ from h1).kept hg (hn _ (by omega)), h2.kept hg (hn _ (by omega)), h3, hJ _ _ _ row h4 hg (fun r e => ⟨by have := (hr r e).1; omega, trivial⟩)⟩
theorem ruX_own {s : ByteArray} {S base : Nat} {Jx : List Run3 → World → Prop} (hJx : AbX S FrT Jx) (hb : S ≤ base) (c : Code) : OwnFrom base (RuX s Jx c) := by
  rintro pre X Y row ⟨h1, T, h2, h3⟩ hg hr
  exact ⟨h1, T, h2, hJx _ _ _ row h3 hg (fun r e => ⟨by have := (hr r e).1; omega, trivial⟩)⟩

set_option maxHeartbeats 8000000 in
theorem pro_runs (l B : Nat) (s : ByteArray) (hs : s.size ≤ 2147483647) (J Jx : List Run3 → World → Prop) (W : World)
    (hJ : AbX W.heap.size FrT J) (hJx : AbX W.heap.size FrT Jx) (hBx : Boxed W B 9 (.string s))
    (hY : ∀ pre x X, J pre X → pre.length < s.size + 2 → YieldAt Fence.wide 9 Try.prog l #[rvV x] X fun e Y =>
      (e = .returned (.bool true) ∧ J (pre ++ [x]) Y ∧ KpR W.heap.size X Y) ∨ (e = .returned (.bool false) ∧ Jx (pre ++ [x]) Y ∧ KeepsFrom W.heap.size X Y))
    (h0 : J [] W) :
    CallsIn Fence.wide 11 Try.prog 58 #[.func (.yield l) #[] #[], .pointer (some ⟨B, 0, none⟩)] W fun e Y => (∃ v, e = .returned v) ∧
      ((∃ xs, xs = runsL s ∧ J xs Y) ∨ (∃ pre, pre <+: runsL s ∧ Jx pre Y)) := by
  refine callsIn_of_wp_marks Try.func58 rfl trivial ?_ rfl
  simp only [Try.ntmps58, List.size_toArray, List.length_cons, List.length_nil, Nat.reduceAdd, Nat.reduceSub, Array.replicate_succ, Array.replicate_zero, List.push_toArray, List.append_toArray, List.nil_append, List.cons_append]
  have hF : ∀ f, Fence.wide.fn f := fun _ => trivial
  have hcA : ∀ o o', ((W.alloc o).alloc o').cell? ⟨B, 0, none⟩ = some (.string s) := fun o o' => ((hBx.alloc o).alloc o').cell
  gi_wp2_with (gi_at_call 59; refine (callsIn_wide.2 (pieces_any _ _)).mono ?_; rintro e w' ⟨rfl, rfl⟩)
  have b0 := ((Boxed.new W 69 (.func (.yield l) #[] #[])).alloc (.cells #[.int .i64 0, .int .i64 0, .int .i64 0] 45)).alloc (.cells #[.string s] 9)
  have b1 := (Blk.new (W.alloc (.cells #[.func (.yield l) #[] #[]] 69)) #[.int .i64 0, .int .i64 0, .int .i64 0] 45).alloc (.cells #[.string s] 9)
  have b2 := Boxed.new ((W.alloc (.cells #[.func (.yield l) #[] #[]] 69)).alloc (.cells #[.int .i64 0, .int .i64 0, .int .i64 0] 45)) 9 (.string s)
  have hj := hJ.alloc (.cells #[.string s] 9) (hJ.alloc (.cells #[.int .i64 0, .int .i64 0, .int .i64 0] 45) (hJ.alloc (.cells #[.func (.yield l) #[] #[]] 69) h0))
  simp only [World.size_alloc] at b1 b2
  obtain ⟨S, hS⟩ : ∃ S, W.heap.size = S := ⟨_, rfl⟩
  have hsz : (((W.alloc (.cells #[.func (.yield l) #[] #[]] 69)).alloc (.cells #[.int .i64 0, .int .i64 0, .int .i64 0] 45)).alloc (.cells #[.string s] 9)).heap.size = S + 3 := by simp [hS]
  rw [hS] at hJ hJx hY b0 b1 b2 ⊢
  obtain ⟨W0, hW0⟩ : ∃ X, (((W.alloc (.cells #[.func (.yield l) #[] #[]] 69)).alloc (.cells #[.int .i64 0, .int .i64 0, .int .i64 0] 45)).alloc (.cells #[.string s] 9)) = X := ⟨_, rfl⟩
  rw [hW0] at b0 b1 b2 hj hsz ⊢
  clear hW0 h0 hBx hcA hS
  refine range_pieces 4 s (by omega) (S + 1 + 1) b2 rfl (RuI s l S J) (RuX s Jx) (ruI_own hJ (by omega)) (ruX_own hJx (by omega)) ⟨[], 0, 0, 0, b0, b1, after_nil s, hj⟩ ?assign ?body ?done ?stop
  case assign =>
    intro l9 x X K hK
    simp only [pcC] at hK ⊢
    gi_wp2
    exact hK
  case body =>
    rintro l9 pre x Bx X ⟨T, a, b, c, k0, k1, k2, k3⟩ hle hbx hlen
    rw [hsz] at hle ⊢
    have hwf := wd_fits s x.1 x.2
    have cO := of_kd s x.1 X
    have hTl := after_len k2
    have hpx := x.2
    have hAs := fun h => after_same (x := x) k2 h
    have hAn := fun h => after_new (x := x) k2 h
    have hIm := fun (T' : List Run3) (a' b' c' : Nat) (Y : World) (h1 : Boxed Y S 69 (.func (.yield l) #[] #[])) (h2 : Blk Y (S + 1) #[.int .i64 a', .int .i64 b', .int .i64 c'] 45) (h3 : After s (pre ++ [x]) T' (a', b', c')) (h4 : J T' Y) => (⟨T', a', b', c', h1, h2, h3, h4⟩ : RuI s l S J (pre ++ [x]) Y)
    have hXm : ∀ Y, kd s x.1 ≠ c → a < b → Jx (T ++ [(a, b, c)]) Y → RuX s Jx .ret (pre ++ [x]) Y := fun Y h1 h2 h3 => by
      refine ⟨rfl, _, fun ps => ?_, h3⟩
      rw [after_new (x := x) k2 h1 ps, told, if_pos h2]
      exact List.prefix_append _ _
    have HAS := Lib.hid hAs
    have HAN := Lib.hid hAn
    have HIM := Lib.hid hIm
    have HXM := Lib.hid hXm
    clear hAs hAn hIm hXm k2
    obtain ⟨p, hp⟩ := x
    simp only at hwf cO hpx hbx HAS HAN HXM HIM ⊢
    simp only [pcC] at hbx ⊢
    obtain ⟨wx, hwx⟩ : ∃ y, wd s p = y := ⟨_, rfl⟩
    obtain ⟨rx, hrx⟩ : ∃ y, rn s p = y := ⟨_, rfl⟩
    obtain ⟨bx, hbk⟩ : ∃ y, bk s p = y := ⟨_, rfl⟩
    obtain ⟨kx, hkx⟩ : ∃ y, kd s p = y := ⟨_, rfl⟩
    rw [hwx, hrx, hbk, hkx] at cO
    rw [hwx] at hwf
    rw [hwx, hrx, hbk] at hbx ⊢
    rw [hkx, hwx] at HAS HAN
    rw [hkx] at HXM
    clear hwx hrx hbk hkx
    have j1 : IntKind.i64.wrap ((p : Int) + (wx : Int)) = (p : Int) + (wx : Int) := IntWalk.i64_in _ (by omega)
    have bX : Blk X Bx #[.int .i64 p, .int .i64 wx, .int .i32 rx, .bool bx] 56 := hbx
    have d0 := bX.cell 0
    have d1 := bX.cell 1
    have d2 := bX.cell 2
    have d3 := bX.cell 3
    simp only [List.getElem?_toArray, List.getElem?_cons_succ, List.getElem?_cons_zero] at d0 d1 d2 d3
    have hXl : S + 1 + 1 < X.heap.size := by have := bX.lt; omega
    gi_wp2_with (fail)
    refine ((callsIn_wide.2 cO).inRound _).mono ?_
    rintro e X1 ⟨rfl, hbO⟩
    have m0 := (show Blk _ _ _ _ from k0).below' hbO
    have m1 := k1.below' hbO
    have mX := bX.below' hbO
    have hj1 : J T X1 := hJ _ _ _ none k3 (grown_none hbO) (fun r e => by cases e)
    have hne : S + 1 ≠ Bx := by omega
    have hK0 : KpR S X X1 := ⟨⟨hbO.size, fun k o hk _ => (hbO.block k (Array.getElem?_eq_some_iff.1 hk).1).trans hk⟩, fun k _ hk => hbO.block k hk⟩
    clear d0 d1 d2 d3 cO k0 k1 k3 bX hbx hbO
    have v0 := mX.cell 0
    have v1 := mX.cell 1
    have r0 := m1.cell 0
    have r1 := m1.cell 1
    have r2 := m1.cell 2
    have rf := m1.frozen
    have rl := m1.lt
    have xl := mX.lt
    have y0 := (show Boxed X1 S 69 (.func (.yield l) #[] #[]) from m0).cell
    simp only [List.getElem?_toArray, List.getElem?_cons_succ, List.getElem?_cons_zero] at v0 v1 r0 r1 r2
    by_cases hkc : kx = c
    · subst hkc
      have HA := Lib.hid (HAS.out rfl)
      have q1 := m1.set 1 (.int .i64 ((p : Int) + (wx : Int)))
      have q0 := m0.other (B' := S + 1) (by omega) 1 (.int .i64 ((p : Int) + (wx : Int)))
      have qj : J T (X1.setCell ⟨S + 1, 1, none⟩ (.int .i64 ((p : Int) + (wx : Int)))) := hJ _ _ _ (some (S + 1)) hj1 (grownBy_setCell _ _ _ _) (fun r e => by cases e; exact ⟨by omega, trivial⟩)
      simp only [List.setIfInBounds_toArray, List.set_cons_zero, List.set_cons_succ] at q1
      have HQ := Lib.hid (And.intro q1 (And.intro q0 qj))
      have HK := Lib.hid hK0
      clear q1 q0 qj hK0 hj1 hY m0 m1 mX
      gi_wp2
      obtain ⟨q1, q0, qj⟩ := HQ.out
      have hK1 := HK.out
      refine ⟨(kpR_from hK1 (by omega)).trans ((KeepsOthers.setCell _ _ _).from _), ⟨hK1.1.trans (KeepsWalks.setCell _ _ _), ?_⟩, HIM.out _ _ _ _ _ q0 (by push_cast; exact q1) HA.out qj⟩
      exact (Below.heap_setCell _ _ _ _ (by dsimp only; omega)).trans (hK1.2 _ (by omega) hXl)
    · have z1 : ((kx : Int) == (c : Int)) = false := by rw [beq_eq_false_iff_ne]; omega
      have z2 : ¬ (kx : Int) = (c : Int) := by omega
      -- what comes behind the yield, at any world that keeps what is the iterator's
      have hnext : ∀ (Y : World) (T' : List Run3), KpR S X Y → Boxed Y S 69 (.func (.yield l) #[] #[]) → Blk Y (S + 1) #[.int .i64 a, .int .i64 b, .int .i64 c] 45 → J T' Y → T' = T ++ told (a, b, c) →
          ownPostG (S + 3) (KpB (S + 1 + 1)) (RuI s l S J) (RuX s Jx) (pre ++ [⟨p, hp⟩]) X .normal { tmps := #[], defers := [] } ((((Y.setCell ⟨S + 1, 0, none⟩ (.int .i64 p)).setCell ⟨S + 1, 1, none⟩ (.int .i64 0)).setCell ⟨S + 1, 2, none⟩ (.int .i64 kx)).setCell ⟨S + 1, 1, none⟩ (.int .i64 ((p : Int) + (wx : Int)))) := by
        rintro Y T' hK h1 h2 h3 rfl
        have q1 := (((h2.set 0 (.int .i64 p)).set 1 (.int .i64 0)).set 2 (.int .i64 kx)).set 1 (.int .i64 ((p : Int) + (wx : Int)))
        have q0 := ((((show Blk Y S _ _ from h1).other (B' := S + 1) (by omega) 0 (.int .i64 p)).other (B' := S + 1) (by omega) 1 (.int .i64 0)).other (B' := S + 1) (by omega) 2 (.int .i64 kx)).other (B' := S + 1) (by omega) 1 (.int .i64 ((p : Int) + (wx : Int)))
        have jS : ∀ (Z : World) (o : Nat) (v : Value), J (T ++ told (a, b, c)) Z → J (T ++ told (a, b, c)) (Z.setCell ⟨S + 1, o, none⟩ v) := fun Z o v h => hJ _ _ _ (some (S + 1)) h (grownBy_setCell _ _ _ _) (fun r e => by cases e; exact ⟨by omega, trivial⟩)
        simp only [List.setIfInBounds_toArray, List.set_cons_zero, List.set_cons_succ] at q1
        refine ⟨(kpR_from hK (by omega)).trans ((((KeepsOthers.setCell _ _ _).trans (KeepsOthers.setCell _ _ _)).trans ((KeepsOthers.setCell _ _ _).trans (KeepsOthers.setCell _ _ _))).from _), ⟨hK.1.trans (((KeepsWalks.setCell _ _ _).trans (KeepsWalks.setCell _ _ _)).trans ((KeepsWalks.setCell _ _ _).trans (KeepsWalks.setCell _ _ _))), ?_⟩, HIM.out _ _ _ _ _ q0 (by push_cast; exact q1) (HAN.out (fun e => hkc e)) (jS _ _ _ (jS _ _ _ (jS _ _ _ (jS _ _ _ h3))))⟩
        exact (((Below.heap_setCell _ _ _ _ (by dsimp only; omega)).trans (Below.heap_setCell _ _ _ _ (by dsimp only; omega))).trans ((Below.heap_setCell _ _ _ _ (by dsimp only; omega)).trans (Below.heap_setCell _ _ _ _ (by dsimp only; omega)))).trans (hK.2 _ (by omega) hXl)
      have HN := Lib.hid hnext
      by_cases hab : a < b
      · have i1 : (a : Int) < (b : Int) := by omega
        have htold : T ++ [(a, b, c)] = T ++ told (a, b, c) := by rw [told, if_pos hab]
        have HT := Lib.hid htold
        have hXM := fun Y => HXM.out Y (fun e => hkc e) hab
        have HX := Lib.hid hXM
        obtain ⟨fn, tmps, assign, body, hy, hR⟩ := yield_in (m' := 8) (l' := l9) (hY T (a, b, c) X1 hj1 (by omega))
        simp only [rvV] at hy
        have HK := Lib.hid hK0
        have HM := Lib.hid (And.intro m0 m1)
        clear hnext hY hK0 hj1 m0 m1 mX htold hXM hkc
        gi_wp2
        refine hR.mono ?_
        rintro e Y (⟨rfl, hJ', hk'⟩ | ⟨rfl, hJx', hk'⟩)
        · have n0 := kpR_blk hk' (Nat.le_refl _) HM.out.1
          have n1 := kpR_blk hk' (by omega) HM.out.2
          have HE := Lib.hid (HN.out Y _ (kpR_t HK.out hk') n0 n1 hJ' HT.out)
          have w0 := n1.cell 0
          have w1 := n1.cell 1
          have w2 := n1.cell 2
          have wf := n1.frozen
          have wl := n1.lt
          have bY := hk'.2 Bx (by omega) xl
          have e0 := (World.cell?_of_block (a := ⟨Bx, 0, none⟩) bY).trans v0
          have e1 := (World.cell?_of_block (a := ⟨Bx, 1, none⟩) bY).trans v1
          simp only [List.getElem?_toArray, List.getElem?_cons_succ, List.getElem?_cons_zero] at w0 w1 w2
          clear hk' hJ' n0 n1 bY hy hR v0 v1 r0 r1 r2 rf rl
          gi_wp2
          exact HE.out
        · have HE := Lib.hid (And.intro ((kpR_from HK.out (Nat.le_refl _)).trans hk') (HX.out Y hJx'))
          clear hk' hJx' hy hR v0 v1 r0 r1 r2 rf rl
          gi_wp2
          exact ⟨keepsFrom_up HE.out.1 (by omega), HE.out.2⟩
      · have i1 : ¬ (a : Int) < (b : Int) := by omega
        have htold : T = T ++ told (a, b, c) := by rw [told, if_neg hab, List.append_nil]
        have HE := Lib.hid (hnext X1 T hK0 m0 m1 hj1 htold)
        clear hnext hY hK0 hj1 m0 m1 mX htold
        gi_wp2
        exact HE.out
  case done =>
    rintro D xs X hD hxs ⟨T, a, b, c, k0, k1, k2, k3⟩ hK
    have r0 := k1.cell 0
    have r1 := k1.cell 1
    have r2 := k1.cell 2
    simp only [List.getElem?_toArray, List.getElem?_cons_succ, List.getElem?_cons_zero] at r0 r1 r2
    have hrun : runsL s = T ++ told (a, b, c) := by
      have := k2 []
      rw [hxs, List.append_nil] at this
      exact this
    have hTl := after_len k2
    have hxl : xs.length ≤ s.size := by rw [← List.length_map, hxs]; exact posns_len s
    have y0 := (show Boxed X S 69 (.func (.yield l) #[] #[]) from k0).cell
    by_cases hab : a < b
    · have i1 : (a : Int) < (b : Int) := by omega
      obtain ⟨fn, tmps, assign, body, hy, hR⟩ := yield_wide (m' := 10) (hY T (a, b, c) X k3 (by omega))
      simp only [rvV] at hy
      have HL := Lib.hid (show T ++ [(a, b, c)] = runsL s by rw [hrun, told, if_pos hab])
      clear hY k0 k1 k2 k3 hrun
      gi_wp2
      refine hR.mono ?_
      have hDl : D < X.heap.size := (Array.getElem?_eq_some_iff.1 hK).1
      rintro e Y (⟨rfl, hJ', hk'⟩ | ⟨rfl, hJx', hk'⟩)
      · have hK2 := (hk'.2 D (by omega) hDl).trans hK
        clear hk' hy hR r0 r1 r2 y0
        gi_wp2
        refine ⟨by simp, .inl ⟨_, _, rfl, run_takeDeferred (w := Y) hK2, ?_⟩⟩
        refine ⟨_, results_none rfl _ _ _, ⟨_, rfl⟩, .inl ⟨_, HL.out, hJ _ _ _ (some D) hJ' (grownBy_putObj' _ _ _) (fun r e => by cases e; exact ⟨by omega, trivial⟩)⟩⟩
      · have hK2 := hk'.same D _ (by omega) hK rfl
        clear hk' hy hR r0 r1 r2 y0
        gi_wp2
        refine ⟨by simp, .inl ⟨_, _, rfl, run_takeDeferred (w := Y) hK2, ?_⟩⟩
        refine ⟨_, results_none rfl _ _ _, ⟨_, rfl⟩, .inr ⟨_, by rw [HL.out]; exact List.prefix_refl _, hJx _ _ _ (some D) hJx' (grownBy_putObj' _ _ _) (fun r e => by cases e; exact ⟨by omega, trivial⟩)⟩⟩
    · have i1 : ¬ (a : Int) < (b : Int) := by omega
      have HL := Lib.hid (show T = runsL s by rw [hrun, told, if_neg hab, List.append_nil])
      clear hY k0 k1 k2 hrun
      gi_wp2
      refine ⟨by simp, .inl ⟨_, _, rfl, run_takeDeferred (w := X) hK, ?_⟩⟩
      refine ⟨_, results_none rfl _ _ _, ⟨_, rfl⟩, .inl (HL.out ▸ hJ _ _ _ (some D) k3 (grownBy_putObj' _ _ _) (fun r e => by cases e; exact ⟨by omega, trivial⟩))⟩
  case stop =>
    rintro D cd pre X hD hpre ⟨rfl, T, h2, h3⟩ hK
    have hp : T <+: runsL s := by
      obtain ⟨ps, hps⟩ := hpre
      have := h2 ps
      rwa [hps] at this
    have HP := Lib.hid hp
    clear hp h2 hpre hY
    gi_wp2
    refine ⟨by simp, .inl ⟨_, _, rfl, run_takeDeferred (w := X) hK, ?_⟩⟩
    refine ⟨_, results_none rfl _ _ _, ⟨_, rfl⟩, .inr ⟨_, HP.out, hJx _ _ _ (some D) h3 (grownBy_putObj' _ _ _) (fun r e => by cases e; exact ⟨by omega, trivial⟩)⟩⟩
set_option maxHeartbeats 400000 in
theorem runs_any (s : ByteArray) (w : World) :
    Calls Try.prog 31 #[.string s] w fun e w' => e = .returned (.func (.func 58) #[] #[.pointer (some ⟨w.heap.size, 0, none⟩)]) ∧ w' = w.alloc (.cells #[.string s] 9) := by
  go_enter Try.func31, Try.ntmps31
  go_wp2
  go_ret
  exact ⟨rfl, rfl⟩

theorem runs_seq (s : ByteArray) (hs : s.size ≤ 2147483647) (B : Nat) (w : World) (hB : Boxed w B 9 (.string s)) :
    SeqY Fence.wide 11 Try.prog 58 #[.pointer (some ⟨B, 0, none⟩)] (fun x : Run3 => #[rvV x]) (KpR (w.heap.size + 2)) FrT (fun xs => xs = runsL s) (fun pre => pre <+: runsL s) (s.size + 2) w := by
  intro l J Jx W hW hsz hJ hJx hY h0
  refine pro_runs l B s hs J Jx W hJ hJx ((hW.block B hB.lt).trans hB) (fun pre x X h1 h2 => ?_) h0
  rw [hsz]
  have := hY pre x X h1 h2
  rw [hsz] at this
  exact yield_wide this

/-- A loop 'for x := range class.Runs(s)', x in a variable of its own in each round (slot v). -/
theorem range_runs {g : Operand} {q : Tmp} {assign body : Code} {Q : Exit → Act → World → Prop} {a : Act} {w : World} (v : Nat) (s : ByteArray) (hs : s.size ≤ 2147483647) (B : Nat)
    (hB : Boxed w B 9 (.string s)) (hg : a.eval g = .func (.func 58) #[] #[.pointer (some ⟨B, 0, none⟩)])
    (I : List Run3 → World → Prop) (Ix : Code → List Run3 → World → Prop) (hI : AbX w.heap.size FrT I) (hIx : ∀ c, AbX w.heap.size FrT (Ix c)) (h0 : I [] w)
    (hassign : ∀ (l : Nat) (x : Run3) (W : World) (K : Act → World → Prop),
      K { tmps := (a.tmps.setIfInBounds q (rvV x)).setIfInBounds v (.pointer (some ⟨W.heap.size, 0, none⟩)), defers := [] } (W.alloc (.cells #[.int .i64 (x.1 : Nat), .int .i64 (x.2.1 : Nat), .int .i64 (x.2.2 : Nat)] 45)) →
      assign.wpIn (Fence.wide.inRound l) 10 Try.prog (Exit.then K (fun _ _ _ => False)) { tmps := a.tmps.setIfInBounds q (rvV x), defers := [] } W)
    (hbody : ∀ (l : Nat) (pre : List Run3) (x : Run3) (Bx : Nat) (W : World), I pre W → w.heap.size ≤ Bx → W.heap[Bx]? = some (.cells #[.int .i64 (x.1 : Nat), .int .i64 (x.2.1 : Nat), .int .i64 (x.2.2 : Nat)] 45) → pre.length < s.size + 2 →
      body.wpIn (Fence.wide.inRound l) 10 Try.prog (ownPostG w.heap.size (KpR (w.heap.size + 2)) I Ix (pre ++ [x]) W) { tmps := (a.tmps.setIfInBounds q (rvV x)).setIfInBounds v (.pointer (some ⟨Bx, 0, none⟩)), defers := [] } W)
    (hdone : ∀ (D : Nat) (W : World), w.heap.size ≤ D → I (runsL s) W → W.heap[D]? = some (.deferred (some [])) → Q .normal { a with defers := { target := .collected D, args := #[] } :: a.defers } W)
    (hstop : ∀ (D : Nat) (c : Code) (pre : List Run3) (W : World), w.heap.size ≤ D → pre <+: runsL s → Ix c pre W → W.heap[D]? = some (.deferred (some [])) → c.wpIn Fence.wide 12 Try.prog Q { a with defers := { target := .collected D, args := #[] } :: a.defers } W) :
    (Code.rangeFunc g #[q] assign body).wpIn Fence.wide 12 Try.prog Q a w := by
  have enters := enters_of Try.func58 (by kernel_rfl) rfl
  have putK : ∀ (W : World) (o o' : Obj), W.heap[w.heap.size + 1]? = some o → o.isCells = false → o.isWalk = false → KpR (w.heap.size + 2) W (W.putObj (w.heap.size + 1) o') := fun W o o' h _ hw =>
    ⟨KeepsWalks.putObj _ h hw, fun k hk _ => World.putObj_heap_other (by omega)⟩
  refine wpIn_range_y (n := 12) (gf := 58) (lb := #[.pointer (some ⟨B, 0, none⟩)]) (encs := fun x : Run3 => #[rvV x]) (Kp := KpR (w.heap.size + 2)) (Fr := FrT) (S := fun xs => xs = runsL s) (Sp := fun pre => pre <+: runsL s) (N := s.size + 2) rfl (by omega) hg trivial (fun _ _ => enters _ _)
    (runs_seq s hs B w hB) (fun _ _ _ _ _ => trivial) kpR_t putK (fun _ => rfl)
    (fun pre W => I pre W ∧ w.heap.size ≤ W.heap.size) Ix (hI.and (fun _ _ _ _ hs hg _ => Nat.le_trans hs hg.size)) hIx ⟨h0, Nat.le_refl _⟩
    (fun x a' W => ∃ Bx, w.heap.size ≤ Bx ∧ W.heap[Bx]? = some (.cells #[.int .i64 (x.1 : Nat), .int .i64 (x.2.1 : Nat), .int .i64 (x.2.2 : Nat)] 45) ∧ a' = { tmps := (a.tmps.setIfInBounds q (rvV x)).setIfInBounds v (.pointer (some ⟨Bx, 0, none⟩)), defers := [] }) ?_ ?_ ?_ ?_ ?_
  · rintro x a' _ W W' row ⟨Bx, h1, h2, h3⟩ hg hr
    refine ⟨Bx, h1, (hg.block Bx (Array.getElem?_eq_some_iff.1 h2).1 ?_).trans h2, h3⟩
    intro e
    obtain ⟨_, o, ho, hc⟩ := hr Bx e.symm
    rw [h2] at ho; cases ho; cases hc
  · rintro l pre x W K ⟨hi, hsz⟩ hK
    have e0 : ((#[q].zip (#[rvV x] : Array Value)).foldl (fun t (p, v) => t.setIfInBounds p v) a.tmps) = a.tmps.setIfInBounds q (rvV x) := by simp
    rw [e0]
    exact hassign l x W K (hK _ _ ((KeepsOthers.alloc _ _).from _) ⟨KeepsWalks.alloc _ _, fun k _ hk => Below.heap_alloc W _ k hk⟩ ⟨hI.alloc _ hi, by simp; omega⟩ ⟨W.heap.size, hsz, World.alloc_heap_new W _, rfl⟩)
  · rintro l pre x a' W _ ⟨hi, hsz⟩ ⟨Bx, h1, h2, rfl⟩ hlen
    refine wpIn_mono (hbody l pre x Bx W hi h1 h2 hlen) ?_
    rintro e a3 W3 hp
    cases e with
    | normal => exact ⟨hp.1, hp.2.1, hp.2.2, Nat.le_trans hsz hp.1.size⟩
    | ret => exact hp
    | exit id => exact hp
    | goto t => exact hp
    | panic ch => exact hp
    | outgrown => exact hp
  · rintro D xs W hD rfl ⟨hi, _⟩ hk
    exact hdone D W hD hi hk
  · exact hstop
end Go.Proofs.Ytfnngcecfjlfeaa
