/- Places: what New makes. -/
import Derived.Test.YtjlfdoonhfkabaaQb
import Derived.Test.YtjlfdoonhfkabaaQc
import Derived.Deep.AppendLies
namespace Go.Proofs.Ytjlfdoonhfkabaa
set_option linter.unusedVariables false
set_option linter.unusedSimpArgs false
open Go Go.RowKit Go.Shelf
set_option maxRecDepth 100000
attribute [local go_sem] Oper.semAt_some

def plL (s : ByteArray) (l : List Nat) : List Value := l.flatMap fun k => plC (pK s k)
theorem plL_snoc (s : ByteArray) (l : List Nat) (k : Nat) : plL s (l ++ [k]) = plL s l ++ plC (pK s k) := by simp [plL]
theorem plL_range (s : ByteArray) (m : Nat) : plL s (List.range m) = plS s m := rfl

/-- A text's map, where it lies: for reading. -/
def MapAt (s : ByteArray) (m : Nat) (W : World) : Prop :=
  ∃ (ga ca gb cb : Nat), Blk W m #[.string s, .slice (some ⟨ga, 0, none⟩) (nP s + 1) ca, .slice (some ⟨gb, 0, none⟩) (rws s).length cb] 75 ∧
    (∀ j, j < (nP s + 1) * 5 → W.cell? ⟨ga, j, none⟩ = (plS s (nP s + 1))[j]?) ∧ (∀ j, j < (rws s).length * 3 → W.cell? ⟨gb, j, none⟩ = (rwC (rws s))[j]?)
theorem cell_le {W W' : World} {b : Nat} {l : List Value} {n : Nat} (hl : l.length = n) (h : ∀ j, j < n → W.cell? ⟨b, j, none⟩ = l[j]?) (hb : Below W.heap.size W W') : ∀ j, j < n → W'.cell? ⟨b, j, none⟩ = l[j]? := fun j hj => by
  have h1 := h j hj
  rw [List.getElem?_eq_getElem (by omega)] at h1
  rw [at_below h1 hb, List.getElem?_eq_getElem (by omega)]
theorem mapAt_below {s : ByteArray} {m : Nat} {W W' : World} (h : MapAt s m W) (hb : Below W.heap.size W W') : MapAt s m W' := by
  obtain ⟨ga, ca, gb, cb, h1, h2, h3⟩ := h
  exact ⟨ga, ca, gb, cb, h1.below' hb, fun j => cell_le (plS_len s _) h2 hb j, fun j => cell_le (rwC_len _) h3 hb j⟩

theorem infoPl : (Try.prog.info? 28).map (fun i => (i.zero, i.size, i.bytes)) = some (some (.agg #[.int .i64 0, .int .i64 0, .int .i64 0, .int .i64 0, .int .i64 0]), 5, 40) := by kernel_rfl

/-- Between two turns of New's range. -/
def NI (s : ByteArray) (w : World) (m Bm B : Nat) (rv : Value) (pre : List Nat) (W : World) : Prop :=
  ∃ v, (((((Blk W m #[.string s, v, rv] 75 ∧ W.ownsRow w.heap.size 28 5 v pre.length (plL s pre)) ∧ W.ownsRow w.heap.size 83 3 rv (rws s).length (rwC (rws s))) ∧
    Boxed W Bm 23 (.pointer (some ⟨m, 0, none⟩))) ∧ Boxed W B 9 (.string s)) ∧ Below w.heap.size w W)

theorem ni_ab {s : ByteArray} {w : World} {m Bm B base : Nat} {rv : Value} (hm : m < base) (hBm : Bm < base) (hB : B < base) (hw : w.heap.size ≤ base) (hrv : ∀ g, rv.ownBlock = some g → g < base) : AbX base (FrP m) (NI s w m Bm B rv) := by
  rintro pre X Y row ⟨v, ⟨⟨⟨⟨h1, h2⟩, h3⟩, h4⟩, h5⟩, h6⟩ hg hr
  have hne : ∀ k, k < base → some k ≠ row := fun k hk e => by have := (hr k e.symm).1; omega
  refine ⟨v, ⟨⟨⟨⟨h1.kept hg (hne _ hm), h2.kept hg ?_⟩, h3.kept hg ?_⟩, (show Blk _ _ _ _ from h4).kept hg (hne _ hBm)⟩, (show Blk _ _ _ _ from h5).kept hg (hne _ hB)⟩, h6.grown hg h6.size (fun k hk => by have := (hr k hk).1; omega)⟩
  · cases hv : v.ownBlock with
    | none => exact .inl rfl
    | some g =>
      right
      intro e
      obtain ⟨hb, hf⟩ := hr g e.symm
      rcases hf with ⟨o, ho, hc⟩ | hf
      · rcases h2.2 with ⟨rfl, _⟩ | ⟨g', cap, cur, rfl, _, hgb, _⟩
        · cases hv
        · obtain rfl : g' = g := by simpa [Value.ownBlock] using hv
          rw [hgb] at ho; cases ho; cases hc
      · exact hf v (by rw [h1.cell 1]; rfl) hv
  · cases hv : rv.ownBlock with
    | none => exact .inl rfl
    | some g =>
      right
      intro e
      have := hrv g hv
      exact hne g this e

theorem ni_own {s : ByteArray} {w : World} {m Bm B : Nat} {rv : Value} : ∀ pre W, NI s w m Bm B rv pre W → ∀ v, W.cell? ⟨m, 1, none⟩ = some v → ∀ k, v.ownBlock = some k → k < W.heap.size := by
  rintro pre W ⟨v', ⟨⟨⟨⟨h1, h2⟩, _⟩, _⟩, _⟩, _⟩ v hv k hk
  obtain rfl : v' = v := by
    have h9 := h1.cell 1
    rw [hv] at h9
    exact (Option.some.inj h9).symm
  exact (h2.lt k hk).2

theorem row_not_obj {W : World} {base : Nat} {e : TypeId} {size n : Nat} {v : Value} {xs : List Value} (h : W.ownsRow base e size v n xs) {D : Nat} {o : Obj} (hD : W.heap[D]? = some o) (ho : o.isCells = false) : v.ownBlock = none ∨ v.ownBlock ≠ some D := by
  rcases h.2 with ⟨rfl, _⟩ | ⟨g, cap, cur, rfl, _, hgb, _⟩
  · exact .inl rfl
  · right
    intro e
    obtain rfl : g = D := by simpa [Value.ownBlock] using e
    rw [hgb] at hD; cases hD; cases ho
theorem mapAt_of {s : ByteArray} {w : World} {m Bm B : Nat} {rv : Value} {W : World} (h : NI s w m Bm B rv (List.range (nP s + 1)) W) (hR : 0 < (rws s).length) : MapAt s m W := by
  obtain ⟨v, ⟨⟨⟨⟨h0, h1⟩, h2⟩, _⟩, _⟩, _⟩ := h
  rw [List.length_range, plL_range] at h1
  obtain ⟨o1, c1, rfl, k1⟩ := own_slice h1
  obtain ⟨o2, c2, rfl, k2⟩ := own_slice h2
  obtain ⟨g1, rfl⟩ := k1 (by omega)
  obtain ⟨g2, rfl⟩ := k2 hR
  exact ⟨g1, c1, g2, c2, h0, fun j hj => h1.cellAt j hj, fun j hj => h2.cellAt j hj⟩

/-- A loop over all places, its variable in a box of its own in each round (slot v). -/
theorem range_places {g : Operand} {q : Tmp} {assign body : Code} {Q : Exit → Act → World → Prop} {a : Act} {w : World} (v : Nat) (s : ByteArray) (hs : s.size ≤ 65536) (B m : Nat)
    (hB : Boxed w B 9 (.string s)) (hm : m < w.heap.size) (hm0 : w.cell? ⟨m, 1, none⟩ = some (.slice none 0 0)) (hg : a.eval g = .func (.func 48) #[] #[.pointer (some ⟨B, 0, none⟩)])
    (I : List Nat → World → Prop) (hI : AbX w.heap.size (FrP m) I) (hIo : ∀ pre W, I pre W → ∀ v, W.cell? ⟨m, 1, none⟩ = some v → ∀ k, v.ownBlock = some k → k < W.heap.size) (h0 : I [] w)
    (hassign : ∀ (l x : Nat) (W : World) (K : Act → World → Prop),
      K { tmps := (a.tmps.setIfInBounds q (.agg (plA (pK s x)))).setIfInBounds v (.pointer (some ⟨W.heap.size, 0, none⟩)), defers := [] } (W.alloc (.cells (plA (pK s x)) 28)) →
      assign.wpIn (Fence.wide.inRound l) 9 Try.prog (Exit.then K (fun _ _ _ => False)) { tmps := a.tmps.setIfInBounds q (.agg (plA (pK s x))), defers := [] } W)
    (hbody : ∀ (l : Nat) (pre : List Nat) (x Bx : Nat) (W : World), I pre W → w.heap.size ≤ Bx → W.heap[Bx]? = some (.cells (plA (pK s x)) 28) → (∀ v, W.cell? ⟨m, 1, none⟩ = some v → v.ownBlock ≠ some Bx) → pre.length < nP s + 1 →
      body.wpIn (Fence.wide.inRound l) 9 Try.prog (ownPostG w.heap.size (KpP B m w.heap.size) I (fun _ _ _ => False) (pre ++ [x]) W) { tmps := (a.tmps.setIfInBounds q (.agg (plA (pK s x)))).setIfInBounds v (.pointer (some ⟨Bx, 0, none⟩)), defers := [] } W)
    (hdone : ∀ (D : Nat) (W : World), w.heap.size ≤ D → I (List.range (nP s + 1)) W → W.heap[D]? = some (.deferred (some [])) → Q .normal { a with defers := { target := .collected D, args := #[] } :: a.defers } W) :
    (Code.rangeFunc g #[q] assign body).wpIn Fence.wide 11 Try.prog Q a w := by
  have enters := enters_of Try.func48 (by kernel_rfl) rfl
  refine wpIn_range_x (n := 11) (gf := 48) (lb := #[.pointer (some ⟨B, 0, none⟩)]) (encs := fun k : Nat => #[plV (pK s k)]) (Kp := KpP B m w.heap.size) (Fr := FrP m) (S := fun xs => xs = List.range (nP s + 1)) (Sp := fun pre => pre <+: List.range (nP s + 1)) (N := nP s + 1) rfl (by omega) hg trivial (fun _ _ => enters _ _)
    (fun l J Jx W hW hJ hJx hY h0 => places1 l B m w.heap.size s hs J Jx W hW.size hm hJ hJx ((show Blk _ _ _ _ from hB).below' hW) (at_below hm0 hW) hY h0)
    (fun W r o h1 h2 => .inl ⟨o, h1, h2⟩) kpP_t (kpP_b hB.lt hm) (fun _ => rfl)
    (fun pre W => I pre W ∧ w.heap.size ≤ W.heap.size) (fun _ _ _ => False) (hI.and (fun _ _ _ _ hs hg _ => Nat.le_trans hs hg.size)) (fun _ _ _ _ _ hs _ _ => hs) ⟨h0, Nat.le_refl _⟩
    (fun x a' W => ∃ Bx, w.heap.size ≤ Bx ∧ W.heap[Bx]? = some (.cells (plA (pK s x)) 28) ∧ (∀ v, W.cell? ⟨m, 1, none⟩ = some v → v.ownBlock ≠ some Bx) ∧ a' = { tmps := (a.tmps.setIfInBounds q (.agg (plA (pK s x)))).setIfInBounds v (.pointer (some ⟨Bx, 0, none⟩)), defers := [] }) ?_ ?_ ?_ ?_ ?_
  · rintro x a' _ W W' row ⟨Bx, h1, h2, h4, h3⟩ hg hr
    have hbl := (Array.getElem?_eq_some_iff.1 h2).1
    refine ⟨Bx, h1, (hg.block Bx hbl ?_).trans h2, fun v hv => h4 v ?_, h3⟩
    · intro e
      obtain ⟨_, o, ho, hc⟩ := hr Bx e.symm
      rw [h2] at ho; cases ho; cases hc
    · rwa [World.cell?_of_block (w := W) (hg.block m (by omega) (fun e => by have := (hr m e.symm).1; omega))] at hv
  · rintro l pre x W K ⟨hi, hsz⟩ hK
    have e0 : ((#[q].zip (#[plV (pK s x)] : Array Value)).foldl (fun t (p, v) => t.setIfInBounds p v) a.tmps) = a.tmps.setIfInBounds q (.agg (plA (pK s x))) := by simp [plV_A]
    rw [e0]
    have hbl : Below W.heap.size W (W.alloc (.cells (plA (pK s x)) 28)) := (Below.refl _ W).alloc (Nat.le_refl _) _
    refine hassign l x W K (hK _ _ ((KeepsOthers.alloc _ _).from _) ⟨⟨KeepsWalks.alloc _ _, Below.heap_alloc W _ _ (Nat.lt_of_lt_of_le hB.lt hsz)⟩, fun k cs t hk hc hv => ⟨(hbl.block k (Array.getElem?_eq_some_iff.1 hc).1).trans hc, fun u hu => hv u ?_⟩⟩ ⟨hI.alloc _ hi, by simp; omega⟩ ⟨W.heap.size, hsz, World.alloc_heap_new W _, fun u hu e => Nat.lt_irrefl _ (hIo pre W hi u (by rwa [hbl.cell (p := ⟨m, 1, none⟩) (Nat.lt_of_lt_of_le hm hsz)] at hu) _ e), rfl⟩)
    rwa [hbl.cell (p := ⟨m, 1, none⟩) (Nat.lt_of_lt_of_le hm hsz)] at hu
  · rintro l pre x a' W _ ⟨hi, hsz⟩ ⟨Bx, h1, h2, h4, rfl⟩ hlen
    refine wpIn_mono (hbody l pre x Bx W hi h1 h2 h4 hlen) ?_
    rintro e a3 W3 hp
    cases e with
    | normal => exact ⟨hp.1, hp.2.1, hp.2.2, Nat.le_trans hsz hp.1.size⟩
    | ret => exact hp
    | exit id => exact hp
    | goto t => exact hp
    | panic ch => exact hp
    | outgrown => exact hp
  · rintro D xs W hD rfl ⟨hi, _⟩ hk
    exact hdone D W hD hi hk
  · rintro D c pre W _ _ h _
    exact h.elim

set_option maxHeartbeats 4000000 in
theorem new_in (s : ByteArray) (hs : s.size ≤ 65536) (w : World) :
    CallsIn Fence.wide 11 Try.prog 13 #[.string s] w fun e w' => ∃ m, e = .returned (.tuple #[.pointer (some ⟨m, 0, none⟩), .int .i64 0]) ∧ MapAt s m w' ∧ Below w.heap.size w w' := by
  obtain ⟨i0, hi, hz0, hz1, hz2⟩ := info_parts infoPl
  have hsi : ¬ (65536 : Int) < (s.size : Int) := by omega
  refine callsIn_of_wp_marks Try.func13 rfl trivial ?_ rfl
  simp only [Try.ntmps13, List.size_toArray, List.length_cons, List.length_nil, Nat.reduceAdd, Nat.reduceSub, Array.replicate_succ, Array.replicate_zero, List.push_toArray, List.append_toArray, List.nil_append, List.cons_append]
  have hF : ∀ f, Fence.wide.fn f := fun _ => trivial
  gi_wp2_with (first | (gi_at_call 34; refine (callsIn_wide.2 (rows_any s hs _)).mono ?_; rintro e w1 ⟨rv, rfl, hrr, hb1⟩; obtain ⟨ob, cb, rfl, hob⟩ := own_slice hrr) | (gi_at_call 35; refine (callsIn_wide.2 (places_any _ _)).mono ?_; rintro e w' ⟨rfl, rfl⟩))
  have b0 := ((Blk.new w1 #[.string s, .slice none 0 0, .slice ob (rws s).length cb] 75).alloc (.cells #[.pointer (some ⟨w1.heap.size, 0, none⟩)] 23)).alloc (.cells #[.string s] 9)
  have b1 := (Boxed.new (w1.alloc (.cells #[.string s, .slice none 0 0, .slice ob (rws s).length cb] 75)) 23 (.pointer (some ⟨w1.heap.size, 0, none⟩))).alloc (.cells #[.string s] 9)
  have b2 := Boxed.new ((w1.alloc (.cells #[.string s, .slice none 0 0, .slice ob (rws s).length cb] 75)).alloc (.cells #[.pointer (some ⟨w1.heap.size, 0, none⟩)] 23)) 9 (.string s)
  have b3 := ((hrr.alloc (.cells #[.string s, .slice none 0 0, .slice ob (rws s).length cb] 75)).alloc (.cells #[.pointer (some ⟨w1.heap.size, 0, none⟩)] 23)).alloc (.cells #[.string s] 9)
  have bB := ((hb1.alloc hb1.size (.cells #[.string s, .slice none 0 0, .slice ob (rws s).length cb] 75)).alloc (by have := hb1.size; simp; omega) (.cells #[.pointer (some ⟨w1.heap.size, 0, none⟩)] 23)).alloc (by have := hb1.size; simp; omega) (.cells #[.string s] 9)
  have hsz : (((w1.alloc (.cells #[.string s, .slice none 0 0, .slice ob (rws s).length cb] 75)).alloc (.cells #[.pointer (some ⟨w1.heap.size, 0, none⟩)] 23)).alloc (.cells #[.string s] 9)).heap.size = w1.heap.size + 3 := by simp
  have hw1 := hb1.size
  have hrv : ∀ g, (Value.slice ob (rws s).length cb).ownBlock = some g → g < w1.heap.size + 3 := fun g hg => by have := (hrr.lt g hg).2; omega
  obtain ⟨m, hm⟩ : ∃ m, w1.heap.size = m := ⟨_, rfl⟩
  obtain ⟨W0, hW0⟩ : ∃ W0, (((w1.alloc (.cells #[.string s, .slice none 0 0, .slice ob (rws s).length cb] 75)).alloc (.cells #[.pointer (some ⟨w1.heap.size, 0, none⟩)] 23)).alloc (.cells #[.string s] 9)) = W0 := ⟨_, rfl⟩
  simp only [World.size_alloc] at b1 b2
  rw [hW0] at b0 b1 b2 b3 bB hsz ⊢
  simp only [World.size_alloc, hm] at b0 b1 b2 b3 bB hsz hw1 hrv ⊢
  clear hW0 hrr hb1 hm
  have hR : (rws s).length ≤ s.size + 1 := rws_len s
  have hRp : 0 < (rws s).length := by
    unfold rws rwA
    cases h : rwG s (s.size - 0) 0 0 with
    | nil =>
      exfalso
      have : ∀ f b i, rwG s f b i ≠ [] := by
        intro f
        induction f with
        | zero => intro b i h; simp [rwG] at h
        | succ f ih =>
          intro b i h
          rw [rwG] at h
          split at h
          · split at h
            · exact ih _ _ h
            · cases h
          · cases h
      exact this _ _ _ h
    | cons x l => simp
  obtain ⟨gb, rfl⟩ := hob hRp
  have hnP := nP_le s
  refine range_places 5 s hs (m + 1 + 1) m b2 (by omega) (b0.cell 1) rfl (NI s w m (m + 1) (m + 1 + 1) (.slice (some ⟨gb, 0, none⟩) (rws s).length cb)) (ni_ab (by omega) (by omega) (by omega) (by omega) (fun g hg => by rw [hsz]; exact hrv g hg)) ni_own ⟨_, ⟨⟨⟨⟨b0, World.ownsRow_nil _ _ _ _⟩, b3⟩, b1⟩, b2⟩, bB⟩ ?assign ?body ?done
  case assign =>
    intro l x W K hK
    simp only [plA, List.setIfInBounds_toArray, List.set_cons_zero, List.set_cons_succ] at hK ⊢
    gi_wp2
    exact hK
  case body =>
    rintro l pre x Bx W ⟨v, ⟨⟨⟨⟨h0, h1⟩, h2⟩, h3⟩, h4⟩, hB⟩ hle hbx hnb hlen
    rw [hsz] at hle
    obtain ⟨ov, cv, rfl, hov⟩ := own_slice h1
    obtain ⟨q, hq⟩ : ∃ q, pK s x = q := ⟨_, rfl⟩
    have hpl := plL_snoc s pre x
    rw [hq] at hbx hpl ⊢
    clear hq
    obtain ⟨pb, pk, pu, pl, pc⟩ := q
    simp only [plA, plC] at hbx hpl ⊢
    have HPL := Lib.hid hpl
    clear hpl
    obtain ⟨n, hn⟩ : ∃ n, pre.length = n := ⟨_, rfl⟩
    have hn1 : (pre ++ [x]).length = n + 1 := by rw [List.length_append, hn]; rfl
    rw [hn] at h0 h1 hlen hov
    obtain ⟨xs, hxs⟩ : ∃ xs, plL s pre = xs := ⟨_, rfl⟩
    rw [hxs] at h1 HPL
    have c0 := h0.cell
    have c0f := h0.frozen
    have c3 := h3.cell
    have cx := (show Blk _ _ _ _ from hbx).cell
    have hlt0 := h0.lt
    have hcm := h0.cell 1
    have hnb1 : (Value.slice ov n cv).ownBlock ≠ some Bx := hnb _ (h0.cell 1)
    simp only [List.setIfInBounds_toArray, List.set_cons_zero, List.set_cons_succ]
    clear hn hxs hnb
    gi_wp2
    refine round_g (S := untilG [10] (fun X => X.cell? ⟨m + 1, 0, none⟩ = some (.pointer (some ⟨m, 0, none⟩)) ∧ X.cell? ⟨m, 1, none⟩ = some (.slice ov n cv) ∧ (∀ o, X.cell? ⟨Bx, o, none⟩ = ([.int .i64 pb, .int .i64 pk, .int .i64 pu, .int .i64 pl, .int .i64 pc] : List Value)[o]?))) (by kernel_rfl) (by kernel_rfl) (noOut (fun _ _ h => h)) ?_
    have T0 : W.drew.cell? ⟨m + 1, 0, none⟩ = some (.pointer (some ⟨m, 0, none⟩)) ∧ W.drew.cell? ⟨m, 1, none⟩ = some (.slice ov n cv) ∧ (∀ o, W.drew.cell? ⟨Bx, o, none⟩ = ([.int .i64 pb, .int .i64 pk, .int .i64 pu, .int .i64 pl, .int .i64 pc] : List Value)[o]?) := ⟨c3, h0.cell 1, fun o => by have := cx o; simpa using this⟩
    obtain ⟨X0, hX0⟩ : ∃ X0, W.drew = X0 := ⟨_, rfl⟩
    have g0 := h0.drew
    have g1 := drew_row h1
    have g2' := drew_row h2
    have gB := hB.drew
    have gx := (show Blk _ _ _ _ from hbx).drew
    have gBm := (show Blk _ _ _ _ from h3).drew
    have gS := (show Blk _ _ _ _ from h4).drew
    have gK : KeepsOthers W W.drew := KeepsOthers.drew W
    have gP : KpP (m + 1 + 1) m W0.heap.size W W.drew := ⟨⟨gK.walks, rfl⟩, fun k cs t hk hc hv => ⟨hc, hv⟩⟩
    rw [hX0] at g0 g1 g2' gB gx gBm gS gK gP
    rw [hX0] at T0 ⊢
    refine wpAnyG_take [0] (i := 0) (v := (.pointer (some ⟨m, 0, none⟩))) rfl (by kernel_rfl) (by kernel_rfl) (by kernel_rfl) (by kernel_rfl) (by kernel_rfl) (by kernel_rfl) (by kernel_rfl) (by kernel_rfl) (fun _ _ _ h => h) (Or.inl ⟨by rfl, ?hy⟩) T0 ?_
    case hy =>
      intro X hX
      have hX1 := hX.1
      go_simp
    try simp only [Act.put, List.getElem_toArray, List.getElem_cons_zero, List.getElem_cons_succ, List.setIfInBounds_toArray, List.set_cons_zero, List.set_cons_succ]
    refine wpAnyG_take [1] (i := 1) (v := (.pointer (some ⟨m, 0, none⟩))) rfl (by kernel_rfl) (by kernel_rfl) (by kernel_rfl) (by kernel_rfl) (by kernel_rfl) (by kernel_rfl) (by kernel_rfl) (by kernel_rfl) (fun _ _ _ h => h) (Or.inl ⟨by rfl, ?hy⟩) T0 ?_
    case hy =>
      intro X hX
      have hX1 := hX.1
      go_simp
    try simp only [Act.put, List.getElem_toArray, List.getElem_cons_zero, List.getElem_cons_succ, List.setIfInBounds_toArray, List.set_cons_zero, List.set_cons_succ]
    refine wpAnyG_take [2] (i := 2) (v := (.pointer (some ⟨m, 0, none⟩))) rfl (by kernel_rfl) (by kernel_rfl) (by kernel_rfl) (by kernel_rfl) (by kernel_rfl) (by kernel_rfl) (by kernel_rfl) (by kernel_rfl) (fun _ _ _ h => h) (Or.inl ⟨by rfl, ?hy⟩) T0 ?_
    case hy =>
      intro X hX
      skip
      go_simp
    try simp only [Act.put, List.getElem_toArray, List.getElem_cons_zero, List.getElem_cons_succ, List.setIfInBounds_toArray, List.set_cons_zero, List.set_cons_succ]
    refine wpAnyG_take [3] (i := 3) (v := (.pointer (some ⟨m, 1, none⟩))) rfl (by kernel_rfl) (by kernel_rfl) (by kernel_rfl) (by kernel_rfl) (by kernel_rfl) (by kernel_rfl) (by kernel_rfl) (by kernel_rfl) (fun _ _ _ h => h) (Or.inl ⟨by rfl, ?hy⟩) T0 ?_
    case hy =>
      intro X hX
      skip
      go_simp
    try simp only [Act.put, List.getElem_toArray, List.getElem_cons_zero, List.getElem_cons_succ, List.setIfInBounds_toArray, List.set_cons_zero, List.set_cons_succ]
    refine wpAnyG_take [4] (i := 4) (v := (.slice ov n cv)) rfl (by kernel_rfl) (by kernel_rfl) (by kernel_rfl) (by kernel_rfl) (by kernel_rfl) (by kernel_rfl) (by kernel_rfl) (by kernel_rfl) (fun _ _ _ h => h) (Or.inl ⟨by rfl, ?hy⟩) T0 ?_
    case hy =>
      intro X hX
      have hX1 := hX.2.1
      go_simp
    try simp only [Act.put, List.getElem_toArray, List.getElem_cons_zero, List.getElem_cons_succ, List.setIfInBounds_toArray, List.set_cons_zero, List.set_cons_succ]
    refine wpAnyG_take [5] (i := 5) (v := (.agg #[.int .i64 pb, .int .i64 pk, .int .i64 pu, .int .i64 pl, .int .i64 pc])) rfl (by kernel_rfl) (by kernel_rfl) (by kernel_rfl) (by kernel_rfl) (by kernel_rfl) (by kernel_rfl) (by kernel_rfl) (by kernel_rfl) (fun _ _ _ h => h) (Or.inl ⟨by rfl, ?hy⟩) T0 ?_
    case hy =>
      intro X hX
      have hX1 := hX.2.2
      go_simp
    try simp only [Act.put, List.getElem_toArray, List.getElem_cons_zero, List.getElem_cons_succ, List.setIfInBounds_toArray, List.set_cons_zero, List.set_cons_succ]
    refine wpAnyG_all (rs := [6]) (by kernel_rfl) (by simp) ?_
    intro i hi
    simp only [List.mem_cons, List.not_mem_nil, or_false] at hi
    subst hi
    refine wpOp_now rfl rfl ?_
    go_simp
    have g2 := g1.alloc (.cells #[.int .i64 pb, .int .i64 pk, .int .i64 pu, .int .i64 pl, .int .i64 pc] 28)
    have gN := Blk.new X0 #[.int .i64 pb, .int .i64 pk, .int .i64 pu, .int .i64 pl, .int .i64 pc] 28
    have gm := g0.alloc (.cells #[.int .i64 pb, .int .i64 pk, .int .i64 pu, .int .i64 pl, .int .i64 pc] 28)
    have gx2 := gx.alloc (.cells #[.int .i64 pb, .int .i64 pk, .int .i64 pu, .int .i64 pl, .int .i64 pc] 28)
    have gb2 := gBm.alloc (.cells #[.int .i64 pb, .int .i64 pk, .int .i64 pu, .int .i64 pl, .int .i64 pc] 28)
    have T0 : (X0.alloc (.cells #[.int .i64 pb, .int .i64 pk, .int .i64 pu, .int .i64 pl, .int .i64 pc] 28)).cell? ⟨m + 1, 0, none⟩ = some (.pointer (some ⟨m, 0, none⟩)) ∧ (X0.alloc (.cells #[.int .i64 pb, .int .i64 pk, .int .i64 pu, .int .i64 pl, .int .i64 pc] 28)).cell? ⟨m, 1, none⟩ = some (.slice ov n cv) ∧ (∀ o, (X0.alloc (.cells #[.int .i64 pb, .int .i64 pk, .int .i64 pu, .int .i64 pl, .int .i64 pc] 28)).cell? ⟨Bx, o, none⟩ = ([.int .i64 pb, .int .i64 pk, .int .i64 pu, .int .i64 pl, .int .i64 pc] : List Value)[o]?) := ⟨gb2.cell 0, gm.cell 1, fun o => by have := gx2.cell o; simpa using this⟩
    refine ⟨fun _ => T0, ?_⟩
    refine wpAnyG_all (rs := [7]) (by kernel_rfl) (by simp) ?_
    intro i hi
    simp only [List.mem_cons, List.not_mem_nil, or_false] at hi
    subst hi
    refine wpOp_now rfl rfl ?_
    refine wp_append_lies _ _ _ _ rfl w.heap.size 28 i0 (.agg #[.int .i64 0, .int .i64 0, .int .i64 0, .int .i64 0, .int .i64 0]) 5 40 Try.underlying51 hi hz0 hz1 hz2 rfl (by decide) (.slice ov n cv) n xs rfl g2 ⟨_, 0, none⟩ 1 1 [.int .i64 pb, .int .i64 pk, .int .i64 pu, .int .i64 pl, .int .i64 pc] rfl rfl (World.news_of_block (cs := #[.int .i64 pb, .int .i64 pk, .int .i64 pu, .int .i64 pl, .int .i64 pc]) gN) (fun x hx => by simp at hx; rcases hx with rfl | rfl | rfl | rfl | rfl <;> rfl) (by decide) (by unfold maxLen; omega) (by omega) (by have := gB.size; simp; omega) _ rfl ?_
    intro gA capA Y hownA hgA hat hltA
    obtain ⟨XA, hXA⟩ : ∃ XA, X0.alloc (.cells #[.int .i64 pb, .int .i64 pk, .int .i64 pu, .int .i64 pl, .int .i64 pc] 28) = XA := ⟨_, rfl⟩
    have aK : KeepsOthers X0 XA := hXA ▸ KeepsOthers.alloc _ _
    have aB : Below X0.heap.size X0 XA := hXA ▸ (Below.refl _ _).alloc (Nat.le_refl _) _
    have g3 := g2'.alloc (.cells #[.int .i64 pb, .int .i64 pk, .int .i64 pu, .int .i64 pl, .int .i64 pc] 28)
    have gS2 := gS.alloc (.cells #[.int .i64 pb, .int .i64 pk, .int .i64 pu, .int .i64 pl, .int .i64 pc] 28)
    rw [hXA] at g2 gm gx2 gb2 hgA hat g3 gS2
    have n1 := gm.not_row (e := 28) (by decide) g2
    have n2 := gb2.not_row (e := 28) (by decide) g2
    have n3 := gS2.not_row (e := 28) (by decide) g2
    have ym := gm.kept hgA n1
    have yb := gb2.kept hgA n2
    have yS := gS2.kept hgA n3
    have yx := gx2.kept hgA (fun e => hnb1 e.symm)
    have y3 := g3.kept hgA (rows_apart g3 g2 (by decide))
    have yK : KeepsOthers XA Y := KeepsOthers.of_grownBy hgA (fun j o hj ho => by
      rcases g2.2 with ⟨h9, _⟩ | ⟨g, cap, cur, h9, _, hgb, _⟩
      · rw [h9] at hj; cases hj
      · rw [h9] at hj
        obtain rfl : g = j := by simpa [Value.ownBlock] using hj
        rw [hgb] at ho; cases ho; rfl)
    have T0 : Y.cell? ⟨m + 1, 0, none⟩ = some (.pointer (some ⟨m, 0, none⟩)) ∧ Y.cell? ⟨m, 1, none⟩ = some (.slice ov n cv) ∧ (∀ o, Y.cell? ⟨Bx, o, none⟩ = ([.int .i64 pb, .int .i64 pk, .int .i64 pu, .int .i64 pl, .int .i64 pc] : List Value)[o]?) := ⟨yb.cell 0, ym.cell 1, fun o => by have := yx.cell o; simpa using this⟩
    refine ⟨fun _ => T0, ?_⟩
    try simp only [Act.put, List.getElem_toArray, List.getElem_cons_zero, List.getElem_cons_succ, List.setIfInBounds_toArray, List.set_cons_zero, List.set_cons_succ]
    refine wpAnyG_take [8, 9] (i := 8) (v := (.pointer (some ⟨m, 0, none⟩))) rfl (by kernel_rfl) (by kernel_rfl) (by kernel_rfl) (by kernel_rfl) (by kernel_rfl) (by kernel_rfl) (by kernel_rfl) (by kernel_rfl) (fun _ _ _ h => h) (Or.inl ⟨by rfl, ?hy⟩) T0 ?_
    case hy =>
      intro X hX
      skip
      go_simp
    try simp only [Act.put, List.getElem_toArray, List.getElem_cons_zero, List.getElem_cons_succ, List.setIfInBounds_toArray, List.set_cons_zero, List.set_cons_succ]
    refine wpAnyG_take [9] (i := 9) (v := (.pointer (some ⟨m, 1, none⟩))) rfl (by kernel_rfl) (by kernel_rfl) (by kernel_rfl) (by kernel_rfl) (by kernel_rfl) (by kernel_rfl) (by kernel_rfl) (by kernel_rfl) (fun _ _ _ h => h) (Or.inl ⟨by rfl, ?hy⟩) T0 ?_
    case hy =>
      intro X hX
      skip
      go_simp
    try simp only [Act.put, List.getElem_toArray, List.getElem_cons_zero, List.getElem_cons_succ, List.setIfInBounds_toArray, List.set_cons_zero, List.set_cons_succ]
    have z1 := ym.frozen 1
    have z2 := ym.cell 1
    simp only [List.getElem?_toArray, List.getElem?_cons_succ, List.getElem?_cons_zero] at z2
    refine wpAnyG_all (rs := [10]) (by kernel_rfl) (by simp) ?_
    intro i hi
    simp only [List.mem_cons, List.not_mem_nil, or_false] at hi
    subst hi
    refine wpOp_now rfl rfl ?_
    go_simp
    refine ⟨fun h => (nomatch (show (false : Bool) = true from h)), ?_⟩
    refine wpAnyG_done (by kernel_rfl) ?_ _
    have zK : KeepsOthers W (Y.setCell ⟨m, 1, none⟩ (.slice (some ⟨gA, 0, none⟩) (n + 1) capA)) := ((gK.trans aK).trans yK).trans (KeepsOthers.setCell _ _ _)
    have zB : ∀ k cs t, m + 3 ≤ k → W.heap[k]? = some (.cells cs t (0, 0)) → (Value.slice ov n cv).ownBlock ≠ some k → (Y.setCell ⟨m, 1, none⟩ (.slice (some ⟨gA, 0, none⟩) (n + 1) capA)).heap[k]? = some (.cells cs t (0, 0)) ∧ gA ≠ k := by
      intro k cs t hk hc hv
      have h8 : X0.heap[k]? = some (.cells cs t (0, 0)) := hX0 ▸ hc
      have hk8 := (Array.getElem?_eq_some_iff.1 h8).1
      have h9 : XA.heap[k]? = some (.cells cs t (0, 0)) := (aB.block k hk8).trans h8
      refine ⟨(Below.heap_setCell _ _ _ _ (by dsimp only; omega)).trans ((hgA.block k (Array.getElem?_eq_some_iff.1 h9).1 (fun e => hv e.symm)).trans h9), fun e => ?_⟩
      rcases hat with h | h
      · exact hv (h.trans (by rw [e]))
      · have := aB.size
        have h7 : X0.heap.size + 1 = XA.heap.size := by rw [← hXA]; simp
        omega
    have zc : (Y.setCell ⟨m, 1, none⟩ (.slice (some ⟨gA, 0, none⟩) (n + 1) capA)).cell? ⟨m, 1, none⟩ = some (.slice (some ⟨gA, 0, none⟩) (n + 1) capA) := (ym.set 1 _).cell 1
    refine ⟨zK.from _, ⟨⟨zK.walks, ?_⟩, fun k cs t hk hc hv => ?_⟩, _, ⟨⟨⟨⟨ym.set 1 (.slice (some ⟨gA, 0, none⟩) (n + 1) capA), ?_⟩, ?_⟩, ?_⟩, ?_⟩, ?_⟩
    · exact (show Blk _ _ _ _ from yS.other (by omega) 1 _).trans (show Blk _ _ _ _ from h4).symm
    · obtain ⟨u1, u2⟩ := zB k cs t (by omega) hc (hv _ (h0.cell 1))
      refine ⟨u1, fun v hv' => ?_⟩
      rw [zc] at hv'
      cases hv'
      simpa [Value.ownBlock] using u2
    · rw [hn1, HPL.out]
      exact row_other ym (by decide) hownA 1 _
    · exact row_other ym (by decide) y3 1 _
    · exact yb.other (by omega) 1 _
    · exact yS.other (by omega) 1 _
    · refine ((gB.trans (aB.mono gB.size)).grown hgA (by have := gB.size; have := aB.size; omega) (fun j hj => (g2.lt j hj).1)).setCell (p := ⟨m, 1, none⟩) (by dsimp only; omega) _
  case done =>
    rintro D V hD ⟨v, ⟨⟨⟨⟨h0, h1⟩, h2⟩, h3⟩, h4⟩, hB⟩ hK
    rw [hsz] at hD
    have c3 := h3.cell
    have hV : NI s w m (m + 1) (m + 1 + 1) (.slice (some ⟨gb, 0, none⟩) (rws s).length cb) (List.range (nP s + 1)) (V.putObj D (.deferred none)) := by
      have hg := grownBy_putObj' V D (.deferred none)
      refine ⟨v, ⟨⟨⟨⟨h0.kept hg (fun e => by have := Option.some.inj e; omega), h1.kept hg (row_not_obj h1 hK rfl)⟩, h2.kept hg (row_not_obj h2 hK rfl)⟩, (show Blk _ _ _ _ from h3).kept hg (fun e => by have := Option.some.inj e; omega)⟩, (show Blk _ _ _ _ from h4).kept hg (fun e => by have := Option.some.inj e; omega)⟩,
        hB.trans (belowK_b (w := w) (Nat.le_refl _) V D _ (.deferred none) (by omega) hK rfl rfl)⟩
    have hM := mapAt_of hV hRp
    obtain ⟨_, _, hB2⟩ := hV
    clear h0 h1 h2 h4 hB
    gi_wp2
    refine ⟨by simp, .inl ⟨_, _, rfl, run_takeDeferred (w := V) hK, ?_⟩⟩
    refine ⟨.tuple #[.pointer (some ⟨m, 0, none⟩), .int .i64 0], ?_, m, rfl, hM, hB2⟩
    simp [results, Try.f13, go_sem]
end Go.Proofs.Ytjlfdoonhfkabaa
