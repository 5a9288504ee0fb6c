/- Layer 5: Back. -/
import Derived.Test.YtnbhdgbhmcbeoaaCle
namespace Go.Proofs.Ytnbhdgbhmcbeoaa
set_option linter.unusedVariables false
set_option linter.unusedSimpArgs false
open Go Go.RowKit Go.Shelf
set_option maxRecDepth 100000
attribute [local go_sem] Oper.semAt_some

theorem back_any (s : ByteArray) (w : World) :
    Calls Try.prog 28 #[.string s] w fun e w' => e = .returned (.func (.func 44) #[] #[.pointer (some ⟨w.heap.size, 0, none⟩)]) ∧ w' = w.alloc (.cells #[.string s] 9) := by
  go_enter Try.func28, Try.ntmps28
  go_wp2
  go_ret
  exact ⟨rfl, rfl⟩
def revL (s : ByteArray) : List Cel := (cellsL s).reverse
theorem revL_at (s : ByteArray) (j : Nat) (h : j < (cellsL s).length) : (revL s)[j]? = (cellsL s)[(cellsL s).length - 1 - j]? := by
  unfold revL; rw [List.getElem?_reverse h]
theorem revL_len (s : ByteArray) : (revL s).length = (cellsL s).length := by unfold revL; simp
theorem revL_snoc {s : ByteArray} {j : Nat} {x : Cel} (h : (revL s)[j]? = some x) : (revL s).take (j + 1) = (revL s).take j ++ [x] := by rw [List.take_add_one, h]; rfl
theorem revL_due {s : ByteArray} {j : Nat} {x : Cel} (h : (revL s)[j]? = some x) : (revL s).take j ++ [x] <+: revL s := by rw [← revL_snoc h]; exact List.take_prefix _ _
def BkRel (s : ByteArray) (S D : Nat) (o : Option Addr) (cap n : Nat) (J : List Cel → World → Prop) (base : Nat) (kv : Value) (wr : World) : Prop :=
  ∃ j : Nat, kv = .int .i64 ((n : Int) - 1 - (j : Int)) ∧ j ≤ n ∧ J ((revL s).take j) wr ∧ Boxed wr S 28 (.slice o n cap) ∧ wr.ownsRow base 26 3 (.slice o n cap) n (cc (cellsL s)) ∧ wr.heap[D]? = some (.deferred (some []))

set_option maxHeartbeats 8000000 in
theorem pro_back (l B : Nat) (s : ByteArray) (hs : s.size ≤ 2147483647) (J Jx : List Cel → World → Prop) (w : World)
    (hJ : AbX w.heap.size FrT J) (hJx : AbX w.heap.size FrT Jx) (hBx : Boxed w B 9 (.string s))
    (hY : ∀ pre x X, J pre X → pre.length < s.size + 2 → pre ++ [x] <+: revL s → YieldAt Fence.wide 9 Try.prog l #[celV x] X fun e Y =>
      (e = .returned (.bool true) ∧ J (pre ++ [x]) Y ∧ KpR w.heap.size X Y) ∨ (e = .returned (.bool false) ∧ Jx (pre ++ [x]) Y ∧ KeepsFrom w.heap.size X Y))
    (h0 : J [] w) :
    CallsIn Fence.wide 11 Try.prog 44 #[.func (.yield l) #[] #[], .pointer (some ⟨B, 0, none⟩)] w fun e Y => (∃ v, e = .returned v) ∧
      ((∃ xs, xs = revL s ∧ J xs Y) ∨ (∃ pre, pre <+: revL s ∧ Jx pre Y)) := by
  obtain ⟨i0, hi, hz0, hz1, hz2⟩ := info_parts infoCell
  have hll := cellsL_len s
  refine callsIn_of_wp_marks Try.func44 rfl trivial ?_ rfl
  simp only [Try.ntmps44, List.size_toArray, List.length_cons, List.length_nil, Nat.reduceAdd, Nat.reduceSub, Array.replicate_succ, Array.replicate_zero, List.push_toArray, List.append_toArray, List.nil_append, List.cons_append]
  have hF : ∀ f, Fence.wide.fn f := fun _ => trivial
  have hcA : ∀ o, (w.alloc o).cell? ⟨B, 0, none⟩ = some (.string s) := fun o => (hBx.alloc o).cell
  gi_wp2_with (gi_at_call 27; refine (callsIn_wide.2 (each_any _ _)).mono ?_; rintro e w' ⟨rfl, rfl⟩)
  have b0 : Boxed _ _ _ _ := (Boxed.new w 28 (.slice none 0 0)).alloc (.cells #[.string s] 9)
  have b1 : Boxed _ _ _ _ := Boxed.new (w.alloc (.cells #[.slice none 0 0] 28)) 9 (.string s)
  have hB := ((Below.refl _ w).alloc (Nat.le_refl _) (.cells #[.slice none 0 0] 28)).alloc (by simp) (.cells #[.string s] 9)
  have hz : ((w.alloc (.cells #[.slice none 0 0] 28)).alloc (.cells #[.string s] 9)).heap.size = w.heap.size + 2 := by simp
  simp only [World.size_alloc] at b1 ⊢
  obtain ⟨V, hV⟩ : ∃ V, (w.alloc (.cells #[.slice none 0 0] 28)).alloc (.cells #[.string s] 9) = V := ⟨_, rfl⟩
  rw [hV] at b0 b1 hB hz ⊢
  clear hV hcA hBx
  have HJ := Lib.hid (And.intro hY h0)
  clear hY h0
  refine wpIn_wide.2 ((wpIn_wide (n := 12)).1 ?_)
  refine range_each 4 s (by omega) (w.heap.size + 1) b1 rfl (CsI s w V) (fun _ _ _ => False)
    (fun m => csI_ab s w V m (by omega)) (fun _ _ _ _ _ h _ _ => h) ⟨⟨⟨⟨_, b0, World.ownsRow_nil _ _ _ _, fun g h => by cases h⟩, b1⟩, hB, Nat.le_refl _⟩, List.nil_prefix⟩ ?assign ?body ?done ?stop
  case assign =>
    intro l x W K hK
    simp only [celV] at hK ⊢
    gi_wp2
    exact hK
  case stop =>
    rintro D c pre W _ _ h _
    exact h.elim
  case body =>
    rintro l m pre x Bx X ⟨⟨⟨⟨v, h1, h2, h3⟩, h4⟩, h5, h6⟩, h7⟩ hm1 hle hbl hbx hdue
    have c0 := h1.cell
    have f0 := h1.frozen
    have bx : Blk X Bx #[.int .i64 (x.1 : Nat), .int .i64 (x.2.1 : Nat), .int .i64 (x.2.2 : Nat)] 26 := hbx
    have x0 := bx.cell 0
    have x1 := bx.cell 1
    have x2 := bx.cell 2
    simp only [List.getElem?_toArray, List.getElem?_cons_succ, List.getElem?_cons_zero] at x0 x1 x2
    obtain ⟨d1, d2, d3, d4, _, _, d7⟩ := due_cell hdue
    have l0 : w.heap.size < X.heap.size := Blk.lt (show Blk _ _ _ _ from h1)
    have hdl : (pre ++ [x]).length = pre.length + 1 := by simp
    have HD := Lib.hid (And.intro hdue (And.intro hdl h5))
    obtain ⟨n, hn⟩ : ∃ n, pre.length = n := ⟨_, rfl⟩
    rw [hn] at h2 d7
    have HN := Lib.hid hn
    obtain ⟨xs, hxs⟩ : ∃ xs, cc pre = xs := ⟨_, rfl⟩
    rw [hxs] at h2
    have HXS := Lib.hid hxs
    have hz6 : w.heap.size + 2 ≤ X.heap.size := by omega
    obtain ⟨o, cap, rfl, ho⟩ := own_slice h2
    have hn2 : (0 : Nat) ≤ n := by omega
    clear hdue hdl h5 h7 bx hbx d1 hn hxs
    have h1a := h1.alloc (.cells #[.int .i64 (x.1 : Nat), .int .i64 (x.2.1 : Nat), .int .i64 (x.2.2 : Nat)] 26)
    have h2a := h2.alloc (.cells #[.int .i64 (x.1 : Nat), .int .i64 (x.2.1 : Nat), .int .i64 (x.2.2 : Nat)] 26)
    simp only [celV, List.setIfInBounds_toArray, List.set_cons_zero, List.set_cons_succ]
    gi_wp2_with (gi_at_builtin; refine round_list (noOut (fun _ _ h => h)) _ _ _ (by kernel_rfl) ?_; refine wpList_append_own _ rfl _ _ 28 rfl V.heap.size 26 i0 (.agg #[.int .i64 0, .int .i64 0, .int .i64 0]) 3 24 Try.underlying28 hi hz0 hz1 hz2 rfl (by decide) (.slice o n cap) _ _ rfl (h2.alloc _) ⟨X.heap.size, 0, none⟩ 1 1 [.int .i64 (x.1 : Nat), .int .i64 (x.2.1 : Nat), .int .i64 (x.2.2 : Nat)] rfl rfl (World.news_of_block (cs := #[.int .i64 (x.1 : Nat), .int .i64 (x.2.1 : Nat), .int .i64 (x.2.2 : Nat)]) (t := 26) (fr := (0, 0)) (World.alloc_heap_new X _)) (fun y hy => by simp at hy; rcases hy with rfl | rfl | rfl <;> rfl) (by unfold maxLen; omega) (by omega) (by simp; omega) ?_; intro v' w2 hown' hgrow _; have k4 := h1a.kept hgrow (fun e' => boxed_not_row h1a (by decide) h2a e'.symm); have kc4 := k4.cell; have kf4 := k4.frozen; obtain ⟨o', c', rfl, _⟩ := own_slice hown')
    obtain ⟨q1, q2, q3, q4, q5, q6⟩ := rowM_step (m := m) (T := 28) (e := 26) (by decide) (by decide) ((Below.refl X.heap.size X).alloc (Nat.le_refl _) _) h1 h2 h3 hgrow hown' h4 (by omega) (by omega)
    refine wpList_plain rfl fun K hK => ?_
    go_simp
    refine hK _ _ ?_
    clear hK K
    refine wpList_nil ?_
    obtain ⟨hdue, hdl, h5⟩ := HD.out
    refine ⟨q3.from _, q2, ⟨⟨?_, q6 _ _ _ (by decide) (by omega) h4⟩, q4 _ _ h5 (Nat.le_refl _) (by omega) (by omega), Nat.le_trans h6 q5⟩, hdue⟩
    rw [hdl, HN.out, cc_app, cc_one, HXS.out]
    exact q1
  case done =>
    rintro D m X hDl ⟨⟨⟨⟨v, h1, h2, h3⟩, h4⟩, h5, h6⟩, h7⟩ _ hK
    have c0 := h1.cell
    have hD2 := hz ▸ hDl
    obtain ⟨o, cap, rfl, ho⟩ := own_slice h2
    have hj : J [] X := hJ [] _ _ none HJ.out.2 (grown_none h5) (fun r e => by cases e)
    obtain ⟨n, hn⟩ : ∃ n, (cellsL s).length = n := ⟨_, rfl⟩
    rw [hn] at h1 h2 hll c0
    have HN := Lib.hid hn
    have ho' : 0 < n → ∃ g, o = some ⟨g, 0, none⟩ := fun h => ho (by rw [HN.out]; exact h)
    have HO := Lib.hid ho'
    have j0 : IntKind.i64.wrap ((n : Int) - 1) = (n : Int) - 1 := IntWalk.i64_in _ (by omega)
    have hat : BkRel s w.heap.size D o cap n J V.heap.size (.int .i64 ((n : Int) - 1)) X := ⟨0, by simp, Nat.zero_le _, by simpa using hj, h1, h2, hK⟩
    clear h1 h2 h3 h4 h5 h7 hj hn ho ho' hK
    have hDw : w.heap.size ≤ D := by omega
    gi_wp2
    gi_loopw [5] (fun kv wr => BkRel s w.heap.size D o cap n J V.heap.size kv wr) (fun kv _ => (intOf kv + 1).toNat)
    case atStart => exact hat
    case round =>
      clear hat
      obtain ⟨j, rfl, hj, hJj, hb, hro, hd⟩ := hrel
      by_cases hlt : j < n
      · obtain ⟨i, hi'⟩ : ∃ i, n - 1 - j = i := ⟨_, rfl⟩
        have e : (n : Int) - 1 - (j : Int) = (i : Int) := by omega
        rw [e]
        obtain ⟨g, rfl⟩ := HO.out (by omega)
        obtain ⟨x, hx⟩ : ∃ x, (cellsL s)[i]? = some x := ⟨_, List.getElem?_eq_getElem (by rw [HN.out]; omega)⟩
        have hrx : (revL s)[j]? = some x := by rw [revL_at s j (by rw [HN.out]; exact hlt), HN.out, hi']; exact hx
        obtain ⟨r0, r1, r2⟩ := cc_get hx
        have c0 := (hro.cellAt (i * 3) (by omega)).trans r0
        have c1 := (hro.cellAt (i * 3 + 1) (by omega)).trans r1
        have c2 := (hro.cellAt (i * 3 + 2) (by omega)).trans r2
        have cb := hb.cell
        have hgl := hro.lt g rfl
        have hbl := Blk.lt (show Blk _ _ _ _ from hb)
        have hDl := (Array.getElem?_eq_some_iff.1 hd).1
        have i1 : (0 : Int) ≤ (i : Int) := by omega
        have i2 : (i : Int) < (n : Int) := by omega
        have i3 : decide ((0 : Int) ≤ (i : Int)) = true := decide_eq_true i1
        have j1 : IntKind.i64.wrap ((i : Int) - 1) = (i : Int) - 1 := IntWalk.i64_in _ (by omega)
        have hpl : ((revL s).take j).length = j := by rw [List.length_take, revL_len, HN.out]; omega
        obtain ⟨fn, tmps, assign, body, hy, hR⟩ := yield_wide (m' := 10) (HJ.out.1 ((revL s).take j) x wr hJj (by rw [hpl]; omega) (revL_due hrx))
        simp only [celV] at hy
        have HX := Lib.hid (And.intro (revL_snoc hrx) (And.intro (revL_due hrx) e))
        have HB := Lib.hid (And.intro hb (And.intro hro hd))
        clear hJj hb hro hd hrx hx r0 r1 r2 hpl e
        gi_wp2
        refine hR.mono ?_
        rintro e Y (⟨rfl, hJ', hk'⟩ | ⟨rfl, hJx', hk'⟩)
        · have b2 := kpR_blk hk' (Nat.le_refl _) (show Blk _ _ _ _ from HB.out.1)
          have hro2 := own_same (W := Y) HB.out.2.1 (fun g' e => by
            have e : g' = g := by simpa [Value.ownBlock] using e.symm
            subst e
            exact hk'.2 g' (by omega) hgl.2)
          have hd2 := (hk'.2 D hDw hDl).trans HB.out.2.2
          have HH := Lib.hid (And.intro b2 (And.intro hro2 (And.intro hd2 hJ')))
          clear b2 hro2 hd2 hJ' hk' hy hR c0 c1 c2 cb
          gi_wp2
          go_roundw
          case rel =>
            obtain ⟨b2, hro2, hd2, hJ'⟩ := HH.out
            exact ⟨j + 1, by have := HX.out.2.2; push_cast; congr 1; omega, by omega, by rw [HX.out.1]; exact hJ', b2, hro2, hd2⟩
          case measure => simp [intOf]
        · have hd2 := hk'.same D _ hDw HB.out.2.2 rfl
          have HH := Lib.hid (And.intro hd2 hJx')
          clear hd2 hJx' hk' hy hR c0 c1 c2 cb
          gi_wp2
          obtain ⟨hd2, hJx'⟩ := HH.out
          refine ⟨by simp, .inl ⟨_, _, rfl, run_takeDeferred (w := Y) hd2, ?_⟩⟩
          exact ⟨_, results_none rfl _ _ _, ⟨_, rfl⟩, .inr ⟨_, HX.out.2.1, hJx _ _ _ (some D) hJx' (grownBy_putObj' _ _ _) (fun r e => by cases e; exact ⟨hDw, trivial⟩)⟩⟩
      · have hjn : j = n := by omega
        have i3 : decide ((0 : Int) ≤ (n : Int) - 1 - (j : Int)) = false := decide_eq_false (by omega)
        have i4 : ¬ (0 : Int) ≤ (n : Int) - 1 - (j : Int) := by omega
        have hfull : (revL s).take j = revL s := by rw [hjn, ← HN.out, ← revL_len]; exact List.take_length ..
        rw [hfull] at hJj
        have HH := Lib.hid (And.intro hd hJj)
        clear hd hJj hfull hb hro hjn
        gi_wp2
        obtain ⟨hd, hJj⟩ := HH.out
        refine ⟨by simp, .inl ⟨_, _, rfl, run_takeDeferred (w := wr) hd, ?_⟩⟩
        exact ⟨_, results_none rfl _ _ _, ⟨_, rfl⟩, .inl (hJ _ _ _ (some D) hJj (grownBy_putObj' _ _ _) (fun r e => by cases e; exact ⟨hDw, trivial⟩))⟩
theorem back_seq (s : ByteArray) (hs : s.size ≤ 2147483647) (B : Nat) (w : World) (hB : Boxed w B 9 (.string s)) :
    SeqZ Fence.wide 11 Try.prog 44 #[.pointer (some ⟨B, 0, none⟩)] (fun x : Cel => #[celV x]) (KpR (w.heap.size + 2)) FrT (fun xs => xs = revL s) (fun pre => pre <+: revL s) (fun pre x => pre ++ [x] <+: revL s) (s.size + 2) w := by
  intro l J Jx W hW hsz hJ hJx hY h0
  refine pro_back l B s hs J Jx W hJ hJx ((hW.block B hB.lt).trans hB) (fun pre x X h1 h2 h3 => ?_) h0
  rw [hsz]
  have := hY pre x X h1 h2 h3
  rw [hsz] at this
  exact yield_wide this

/-- A loop 'for x := range cluster.Back(s)', x in a variable of its own in each round (slot v). -/
theorem range_back {g : Operand} {q : Tmp} {assign body : Code} {Q : Exit → Act → World → Prop} {a : Act} {w : World} (v : Nat) (s : ByteArray) (hs : s.size ≤ 2147483647) (B : Nat)
    (hB : Boxed w B 9 (.string s)) (hg : a.eval g = .func (.func 44) #[] #[.pointer (some ⟨B, 0, none⟩)])
    (I : List Cel → World → Prop) (Ix : Code → List Cel → World → Prop) (hI : AbX w.heap.size FrT I) (hIx : ∀ c, AbX w.heap.size FrT (Ix c)) (h0 : I [] w)
    (hassign : ∀ (l : Nat) (x : Cel) (W : World) (K : Act → World → Prop),
      K { tmps := (a.tmps.setIfInBounds q (celV x)).setIfInBounds v (.pointer (some ⟨W.heap.size, 0, none⟩)), defers := [] } (W.alloc (.cells #[.int .i64 (x.1 : Nat), .int .i64 (x.2.1 : Nat), .int .i64 (x.2.2 : Nat)] 26)) →
      assign.wpIn (Fence.wide.inRound l) 10 Try.prog (Exit.then K (fun _ _ _ => False)) { tmps := a.tmps.setIfInBounds q (celV x), defers := [] } W)
    (hbody : ∀ (l : Nat) (pre : List Cel) (x : Cel) (Bx : Nat) (W : World), I pre W → w.heap.size ≤ Bx → W.heap[Bx]? = some (.cells #[.int .i64 (x.1 : Nat), .int .i64 (x.2.1 : Nat), .int .i64 (x.2.2 : Nat)] 26) → pre.length < s.size + 2 → pre ++ [x] <+: revL s →
      body.wpIn (Fence.wide.inRound l) 10 Try.prog (ownPostG w.heap.size (KpR (w.heap.size + 2)) I Ix (pre ++ [x]) W) { tmps := (a.tmps.setIfInBounds q (celV x)).setIfInBounds v (.pointer (some ⟨Bx, 0, none⟩)), defers := [] } W)
    (hdone : ∀ (D : Nat) (W : World), w.heap.size ≤ D → I (revL s) W → W.heap[D]? = some (.deferred (some [])) → Q .normal { a with defers := { target := .collected D, args := #[] } :: a.defers } W)
    (hstop : ∀ (D : Nat) (c : Code) (pre : List Cel) (W : World), w.heap.size ≤ D → pre <+: revL s → Ix c pre W → W.heap[D]? = some (.deferred (some [])) → c.wpIn Fence.wide 12 Try.prog Q { a with defers := { target := .collected D, args := #[] } :: a.defers } W) :
    (Code.rangeFunc g #[q] assign body).wpIn Fence.wide 12 Try.prog Q a w := by
  have enters := enters_of Try.func44 (by kernel_rfl) rfl
  have putK : ∀ (W : World) (o o' : Obj), W.heap[w.heap.size + 1]? = some o → o.isCells = false → o.isWalk = false → KpR (w.heap.size + 2) W (W.putObj (w.heap.size + 1) o') := fun W o o' h _ hw =>
    ⟨KeepsWalks.putObj _ h hw, fun k hk _ => World.putObj_heap_other (by omega)⟩
  refine wpIn_range_z (n := 12) (gf := 44) (lb := #[.pointer (some ⟨B, 0, none⟩)]) (encs := fun x : Cel => #[celV x]) (Kp := KpR (w.heap.size + 2)) (Fr := FrT) (S := fun xs => xs = revL s) (Sp := fun pre => pre <+: revL s) (Due := fun pre x => pre ++ [x] <+: revL s) (N := s.size + 2) rfl (by omega) hg trivial (fun _ _ => enters _ _)
    (back_seq s hs B w hB) (fun _ _ _ _ _ => trivial) kpR_t putK (fun _ => rfl)
    (fun pre W => I pre W ∧ w.heap.size ≤ W.heap.size) Ix (hI.and (fun _ _ _ _ hs hg _ => Nat.le_trans hs hg.size)) hIx ⟨h0, Nat.le_refl _⟩
    (fun x a' W => ∃ Bx, w.heap.size ≤ Bx ∧ W.heap[Bx]? = some (.cells #[.int .i64 (x.1 : Nat), .int .i64 (x.2.1 : Nat), .int .i64 (x.2.2 : Nat)] 26) ∧ a' = { tmps := (a.tmps.setIfInBounds q (celV x)).setIfInBounds v (.pointer (some ⟨Bx, 0, none⟩)), defers := [] }) ?_ ?_ ?_ ?_ ?_
  · rintro x a' _ W W' row ⟨Bx, h1, h2, h3⟩ hg hr
    refine ⟨Bx, h1, (hg.block Bx (Array.getElem?_eq_some_iff.1 h2).1 ?_).trans h2, h3⟩
    intro e
    obtain ⟨_, o, ho, hc⟩ := hr Bx e.symm
    rw [h2] at ho; cases ho; cases hc
  · rintro l pre x W K ⟨hi, hsz⟩ hK
    have e0 : ((#[q].zip (#[celV x] : Array Value)).foldl (fun t (p, v) => t.setIfInBounds p v) a.tmps) = a.tmps.setIfInBounds q (celV x) := by simp
    rw [e0]
    exact hassign l x W K (hK _ _ ((KeepsOthers.alloc _ _).from _) ⟨KeepsWalks.alloc _ _, fun k _ hk => Below.heap_alloc W _ k hk⟩ ⟨hI.alloc _ hi, by simp; omega⟩ ⟨W.heap.size, hsz, World.alloc_heap_new W _, rfl⟩)
  · rintro l pre x a' W _ ⟨hi, hsz⟩ ⟨Bx, h1, h2, rfl⟩ hlen hdue
    refine wpIn_mono (hbody l pre x Bx W hi h1 h2 hlen hdue) ?_
    rintro e a3 W3 hp
    cases e with
    | normal => exact ⟨hp.1, hp.2.1, hp.2.2, Nat.le_trans hsz hp.1.size⟩
    | ret => exact hp
    | exit id => exact hp
    | goto t => exact hp
    | panic ch => exact hp
    | outgrown => exact hp
  · rintro D xs W hD rfl ⟨hi, _⟩ hk
    exact hdone D W hD hi hk
  · exact hstop
end Go.Proofs.Ytnbhdgbhmcbeoaa
