/- Stage 16: Faults, the program's. -/
import Derived.Test.YtdcmkiggnmajgaaYa
import Derived.Test.YtdcmkiggnmajgaaVt
import Derived.Test.YtdcmkiggnmajgaaV8
namespace Go.Proofs.Ytdcmkiggnmajgaa
set_option linter.unusedVariables false
set_option linter.unusedSimpArgs false
open Go Go.RowKit Go.Shelf
set_option maxRecDepth 100000

/-- The clash of a line, if there is one. -/
def flt1 (L : List Rh) (ks : List ByteArray) (k : Nat) : Option (Nat × Nat × Int) :=
  match L[k]?, ks[k]? with
  | some x, some s => if 0 ≤ x.c ∧ fidx L 0 x.c < (k : Int) then (if ks[(fidx L 0 x.c).toNat]? = some s then none else some (k, (fidx L 0 x.c).toNat, 161)) else if kIx ks s < k then some (k, kIx ks s, 162) else none
  | _, _ => none
def fltT (L : List Rh) (ks : List ByteArray) (k : Nat) : List (Nat × Nat × Int) := (List.range k).filterMap (flt1 L ks)
theorem fltT_succ (L : List Rh) (ks : List ByteArray) (k : Nat) : fltT L ks (k + 1) = fltT L ks k ++ (flt1 L ks k).toList := by
  unfold fltT
  rw [List.range_succ, List.filterMap_append]
  congr 1
theorem fltT_len (L : List Rh) (ks : List ByteArray) (k : Nat) : (fltT L ks k).length ≤ k := by
  have := List.length_filterMap_le (flt1 L ks) (List.range k)
  simpa [fltT] using this
def encC (x : Nat × Nat × Int) : List Value := [.int .i64 (x.1 : Nat), .int .i64 (x.2.1 : Nat), .int .i64 x.2.2]
theorem encC_len (x : Nat × Nat × Int) : (encC x).length = 3 := rfl
theorem infoClash : (Try.prog.info? 63).map (fun i => (i.zero, i.size, i.bytes)) = some (some (.agg #[.int .i64 0, .int .i64 0, .int .i64 0]), 3, 24) := by kernel_rfl
theorem kIx_take : ∀ (ks : List ByteArray) (s : ByteArray) (k : Nat), k ≤ ks.length → ixR (ks.take k) s = if kIx ks s < k then (kIx ks s : Int) else -1 := by
  intro ks s k hk
  have key : ∀ (ks : List ByteArray) (k : Nat), k ≤ ks.length → kIx (ks.take k) s = min (kIx ks s) k := by
    intro ks
    induction ks with
    | nil => intro k hk; have : k = 0 := by simpa using hk
             subst this; rfl
    | cons x r ih =>
      intro k hk
      cases k with
      | zero => simp [kIx]
      | succ k =>
        simp only [List.take_succ_cons, kIx]
        split
        · simp
        · rw [ih k (by simpa using hk)]; omega
  unfold ixR
  rw [key ks k hk, List.length_take, Nat.min_eq_left hk]
  by_cases h : kIx ks s < k
  · rw [if_pos (by omega), if_pos h, Nat.min_eq_left (by omega)]
  · rw [if_neg (by omega), if_neg h]
/-- What Faults' memory is like. -/
structure FlR (s : Sc) (ks : List ByteArray) (ol os : Option Addr) (cl cs : Nat) (w X : World) (Q : Nat) (fc : Array Value) (k : Nat) (vl : Value) : Prop where
  box : Blk X w.heap.size #[.slice ol s.L.length cl, .slice os s.S.length cs] 25
  fir : Blk X Q fc 88
  row : X.ownsRow w.heap.size 63 3 vl (fltT s.L ks k).length ((fltT s.L ks k).flatMap encC)
  bel : Below w.heap.size w X
section
variable {s : Sc} {ks : List ByteArray} {ol os : Option Addr} {cl cs : Nat} {w X Y : World} {Q k : Nat} {fc : Array Value} {vl : Value}
theorem FlR.below (h : FlR s ks ol os cl cs w X Q fc k vl) (hb : Below X.heap.size X Y) : FlR s ks ol os cl cs w Y Q fc k vl :=
  ⟨h.box.below' hb, h.fir.below' hb, own_below h.row hb, h.bel.trans (hb.mono h.bel.size)⟩
theorem FlR.skip (h : FlR s ks ol os cl cs w X Q fc k vl) (hn : flt1 s.L ks k = none) : FlR s ks ol os cl cs w X Q fc (k + 1) vl := by
  obtain ⟨h1, h2, h3, h4⟩ := h
  refine ⟨h1, h2, ?_, h4⟩
  rw [fltT_succ, hn]
  simpa using h3
theorem FlR.app {W : World} {v2 : Value} {x : Nat × Nat × Int} (h : FlR s ks ol os cl cs w X Q fc k vl) (hn : flt1 s.L ks k = some x) (hg : X.grownBy W vl.ownBlock)
    (hr : W.ownsRow w.heap.size 63 3 v2 ((fltT s.L ks k).length + 1) ((fltT s.L ks k).flatMap encC ++ encC x)) : FlR s ks ol os cl cs w W Q fc (k + 1) v2 := by
  obtain ⟨h1, h2, h3, h4⟩ := h
  refine ⟨h1.kept hg (h1.not_row (by decide) h3), h2.kept hg (h2.not_row (by decide) h3), ?_, h4.grown hg h4.size (fun r e => (h3.lt r e).1)⟩
  rw [fltT_succ, hn]
  simpa using hr
end

set_option maxHeartbeats 8000000 in
theorem faults_no (s : Sc) (ks : List ByteArray) (ol os o : Option Addr) (cl cs c : Nat) (h1 : s.L.length ≤ 9223372036854775807) (h3 : s.S.length ≤ 9223372036854775807) (hno : mayB s = false ∨ ks.length ≠ s.L.length) (w : World) (hr : RowAt w encR 2 ol s.L) (ht : RowAt w encI 1 os s.S) :
    Calls Try.prog 22 #[.agg #[.slice ol s.L.length cl, .slice os s.S.length cs], .slice o ks.length c] w fun e w' => e = .returned (.tuple #[.slice none 0 0, .int .i64 2]) ∧ Below w.heap.size w w' := by
  have cK := fun W h1' h2' => check_any s ol os cl cs h1 h3 W h1' h2'
  have hb0 := Blk.new w #[.slice ol s.L.length cl, .slice os s.S.length cs] 25
  have hB0 := (Below.refl _ w).alloc (Nat.le_refl _) (.cells #[.slice ol s.L.length cl, .slice os s.S.length cs] 25)
  have hrA := hr.below encR_len (by decide) hB0
  have htA := ht.below encI_len (by decide) hB0
  cases hmay : mayB s
  · rw [hmay] at cK
    simp only [Bool.false_eq_true, if_false] at cK
    clear hno
    go_enter Try.func22, Try.ntmps22
    go_wp2_with (fail)
    refine (cK _ hrA htA).mono ?_
    rintro e W1 ⟨rfl, hB1⟩
    have HB := Lib.hid (hB0.trans (hB1.mono hB0.size))
    clear hB1 hb0 hB0 hrA htA hr ht
    go_wp2
    go_ret2
    exact ⟨rfl, HB.out⟩
  · rw [hmay] at cK
    simp only [if_true] at cK
    have hne : ks.length ≠ s.L.length := hno.elim (fun h => by rw [hmay] at h; cases h) id
    have e1 : ((ks.length : Int) != (s.L.length : Int)) = true := by rw [bne_iff_ne]; omega
    have e2 : (ks.length != s.L.length) = true := by rw [bne_iff_ne]; exact hne
    go_enter Try.func22, Try.ntmps22
    go_wp2_with (fail)
    refine (cK _ hrA htA).mono ?_
    rintro e W1 ⟨rfl, hB1⟩
    have x0 : W1.cell? ⟨w.heap.size, 0, none⟩ = some (.slice ol s.L.length cl) := (hb0.below' hB1).cell 0
    have HB := Lib.hid (hB0.trans (hB1.mono hB0.size))
    clear hB1 hb0 hB0 hrA htA hr ht hno hne
    go_wp2
    go_ret2
    exact ⟨rfl, HB.out⟩

set_option maxHeartbeats 16000000 in
theorem faults_any (s : Sc) (ks : List ByteArray) (ol os o : Option Addr) (cl cs c : Nat) (hfk : NForm o ks.length c) (hmay : mayB s = true) (hlen : ks.length = s.L.length) (w : World) (hr : RowAt w encR 2 ol s.L) (ht : RowAt w encI 1 os s.S) (hk : RowAt w encT 1 o ks) :
    Calls Try.prog 22 #[.agg #[.slice ol s.L.length cl, .slice os s.S.length cs], .slice o ks.length c] w fun e w' => ∃ v, e = .returned (.tuple #[v, .int .i64 0]) ∧ w'.ownsRow w.heap.size 63 3 v (fltT s.L ks s.L.length).length ((fltT s.L ks s.L.length).flatMap encC) ∧ Below w.heap.size w w' := by
  obtain ⟨i0, hi, hz0, hz1, hz2⟩ := info_parts infoClash
  obtain ⟨h1, h2, h3⟩ := may_parts hmay
  have cK := fun W h1' h2' => check_any s ol os cl cs (by omega) (by omega) W h1' h2'
  rw [hmay] at cK
  simp only [if_true] at cK
  rw [hlen]
  have hfk' : NForm o s.L.length c := hlen ▸ hfk
  have hb0 := Blk.new w #[.slice ol s.L.length cl, .slice os s.S.length cs] 25
  have hB0 := (Below.refl _ w).alloc (Nat.le_refl _) (.cells #[.slice ol s.L.length cl, .slice os s.S.length cs] 25)
  have hrA := hr.below encR_len (by decide) hB0
  have htA := ht.below encI_len (by decide) hB0
  have HR := Lib.hid (And.intro hr (And.intro ht (And.intro hk (And.intro hlen h2))))
  clear hr ht hk hlen h2 hfk hmay
  have e1 : ((s.L.length : Int) != (s.L.length : Int)) = false := by simp
  have e2 : (s.L.length != s.L.length) = false := by simp
  go_enter Try.func22, Try.ntmps22
  go_wp2_with (fail)
  refine (cK _ hrA htA).mono ?_
  rintro e W1 ⟨rfl, hB1⟩
  have hb1 := hb0.below' hB1
  have hBw := hB0.trans (hB1.mono hB0.size)
  have x0 : W1.cell? ⟨w.heap.size, 0, none⟩ = some (.slice ol s.L.length cl) := hb1.cell 0
  have x1 : W1.cell? ⟨w.heap.size, 1, none⟩ = some (.slice os s.S.length cs) := hb1.cell 1
  have HW := Lib.hid (And.intro hb1 hBw)
  clear hb0 hB0 hrA htA hB1 hb1 hBw cK
  go_wp2_with (fail)
  refine (firsts_any s ol os cl cs (by omega) HR.out.2.2.2.2 _ (HR.out.1.below encR_len (by decide) HW.out.2)).mono ?_
  rintro e Y ⟨fc, rfl, hfc, hbY⟩
  have hi2 : (Try.prog.info? 88).map (·.size) = some fc.size := by rw [hfc.1]; kernel_rfl
  have hA := heap_alloc_new Y (.cells #[.int .i64 0, .int .i64 0, .int .i64 0, .int .i64 0, .int .i64 0, .int .i64 0, .int .i64 0, .int .i64 0, .int .i64 0, .int .i64 0, .int .i64 0, .int .i64 0, .int .i64 0, .int .i64 0, .int .i64 0, .int .i64 0, .int .i64 0, .int .i64 0, .int .i64 0, .int .i64 0, .int .i64 0, .int .i64 0, .int .i64 0, .int .i64 0, .int .i64 0] 88)
  have hz : (#[.int .i64 0, .int .i64 0, .int .i64 0, .int .i64 0, .int .i64 0, .int .i64 0, .int .i64 0, .int .i64 0, .int .i64 0, .int .i64 0, .int .i64 0, .int .i64 0, .int .i64 0, .int .i64 0, .int .i64 0, .int .i64 0, .int .i64 0, .int .i64 0, .int .i64 0, .int .i64 0, .int .i64 0, .int .i64 0, .int .i64 0, .int .i64 0, .int .i64 0] : Array Value).size = fc.size := by rw [hfc.1]; rfl
  obtain ⟨Y1, hY1⟩ : ∃ Y1, (Y.alloc (.cells #[.int .i64 0, .int .i64 0, .int .i64 0, .int .i64 0, .int .i64 0, .int .i64 0, .int .i64 0, .int .i64 0, .int .i64 0, .int .i64 0, .int .i64 0, .int .i64 0, .int .i64 0, .int .i64 0, .int .i64 0, .int .i64 0, .int .i64 0, .int .i64 0, .int .i64 0, .int .i64 0, .int .i64 0, .int .i64 0, .int .i64 0, .int .i64 0, .int .i64 0] 88)).setRow Y.heap.size fc = Y1 := ⟨_, rfl⟩
  have b6 : Blk Y1 Y.heap.size fc 88 := hY1 ▸ setRow_heap _ _ _ _ _ _ hA
  have hB6 : Below Y.heap.size Y Y1 := hY1 ▸ below_setRow ((Below.refl _ _).alloc (Nat.le_refl _) _) (Nat.le_refl _) fc
  have hB8 : Below W1.heap.size W1 Y1 := hbY.trans (hB6.mono hbY.size)
  have HY := Lib.hid (And.intro hi2 (And.intro hA (And.intro hz (And.intro hfc hY1))))
  have hS0 : FlR s ks ol os cl cs w Y1 Y.heap.size fc 0 (.slice none 0 0) := ⟨HW.out.1.below' hB8, b6, World.ownsRow_nil _ _ _ _, HW.out.2.trans (hB8.mono HW.out.2.size)⟩
  have y0 : Y1.cell? ⟨w.heap.size, 0, none⟩ = some (.slice ol s.L.length cl) := at_below x0 hB8
  have HS := Lib.hid hS0
  have HF := Lib.hid hfc
  clear hi2 hA hz hfc hY1 b6 hB6 hB8 hbY hS0 x0 x1
  go_wp2_with (refine wpList_store_row rfl 88 _ _ rfl Y.heap.size fc rfl rfl 88 #[.int .i64 0, .int .i64 0, .int .i64 0, .int .i64 0, .int .i64 0, .int .i64 0, .int .i64 0, .int .i64 0, .int .i64 0, .int .i64 0, .int .i64 0, .int .i64 0, .int .i64 0, .int .i64 0, .int .i64 0, .int .i64 0, .int .i64 0, .int .i64 0, .int .i64 0, .int .i64 0, .int .i64 0, .int .i64 0, .int .i64 0, .int .i64 0, .int .i64 0] HY.out.2.1 HY.out.1 HY.out.2.2.1 HY.out.2.2.2.1.2.1 ?_; rw [HY.out.2.2.2.2])
  obtain ⟨Q, hQ⟩ : ∃ Q, Y.heap.size = Q := ⟨_, rfl⟩
  rw [hQ] at HS ⊢
  clear hQ HY y0
  go_loopw [6, 28] (fun v i X => ∃ k : Nat, i = .int .i64 k ∧ k ≤ s.L.length ∧ FlR s ks ol os cl cs w X Q fc k v) (fun _ i _ => s.L.length - (intOf i).toNat)
  case atStart => exact ⟨0, rfl, Nat.zero_le _, HS.out⟩
  case round =>
    obtain ⟨k, rfl, hk, hL⟩ := hrel
    obtain ⟨ov, cv, rfl, _⟩ := own_slice hL.row
    by_cases hlt : k < s.L.length
    · obtain ⟨x, hx⟩ : ∃ x, s.L[k]? = some x := ⟨_, List.getElem?_eq_getElem hlt⟩
      obtain ⟨t, ht⟩ : ∃ t, ks[k]? = some t := ⟨_, List.getElem?_eq_getElem (by have := HR.out.2.2.2.1; omega)⟩
      have hok := (okR_iff x).1 (List.all_eq_true.1 HR.out.2.2.2.2 x (List.mem_of_getElem? hx))
      obtain ⟨f, hf, hfk, ⟨yx, hyx, _⟩, _⟩ := fidx_at hx
      obtain ⟨g, off, rfl, hc⟩ := (HR.out.1.below encR_len (by decide) hL.bel) k x hx
      have q0 := hc 0 (by decide)
      have q1 := hc 1 (by decide)
      have hfl : f < ks.length := by have := HR.out.2.2.2.1; omega
      obtain ⟨u, hu⟩ : ∃ u, ks[f]? = some u := ⟨_, List.getElem?_eq_getElem hfl⟩
      have hkr := HR.out.2.2.1.below encT_len (by decide) hL.bel
      obtain ⟨gk, offk, rfl, hck⟩ := hkr k t ht
      obtain ⟨gk', offk', eu, hcu⟩ := hkr f u hu
      cases eu
      have p0 := hck 0 (by decide)
      have p1 := hcu 0 (by decide)
      obtain ⟨cx, r⟩ := x
      simp only [encR, encT, List.getElem?_cons_succ, List.getElem?_cons_zero, Nat.add_zero, Nat.mul_one] at q0 q1 p0 p1
      simp only at hok hf
      obtain ⟨ok1, ok2, ok3, ok4, ok5⟩ := hok
      clear ok5
      have c00 : wr.cell? ⟨w.heap.size, 0, none⟩ = some (.slice (some ⟨g, off, none⟩) s.L.length cl) := hL.box.cell 0
      have hba := (Below.refl wr.heap.size wr).alloc (Nat.le_refl _) (.cells #[.int .i64 cx, .int .i64 r] 79)
      have hLa := hL.below hba
      have b10 := Blk.new wr #[.int .i64 cx, .int .i64 r] 79
      have p0' := at_below p0 hba
      have p1' := at_below p1 hba
      have hkn : k ≤ c := by
        rcases hfk' with ⟨h, _, _⟩ | ⟨_, _, h, _⟩
        · cases h
        · omega
      have hcmx : c ≤ 9223372036854775807 := by
        rcases hfk' with ⟨h, _, _⟩ | ⟨_, _, _, h⟩
        · cases h
        · exact h
      obtain ⟨W', hW'⟩ : ∃ W', wr.alloc (.cells #[.int .i64 cx, .int .i64 r] 79) = W' := ⟨_, rfl⟩
      obtain ⟨Q10, hQ10⟩ : ∃ Q, wr.heap.size = Q := ⟨_, rfl⟩
      rw [hW'] at hLa b10 p0' p1'
      rw [hQ10] at b10
      have y10 : W'.cell? ⟨Q10, 0, none⟩ = some (.int .i64 cx) := b10.cell 0
      have hkt : RowAt W' encT 1 (some ⟨gk, offk, none⟩) (ks.take k) := fun j z hj => (HR.out.2.2.1.below encT_len (by decide) hLa.bel) j z (by
        have hjk : j < k := by have := (List.getElem?_eq_some_iff.1 hj).1; rw [List.length_take] at this; omega
        rwa [List.getElem?_take, if_pos hjk] at hj)
      have hkl : k ≤ ks.length := by have := HR.out.2.2.2.1; omega
      have hil := index_any (ks.take k) t (some ⟨gk, offk, none⟩) c (by rw [List.length_take]; omega)
      rw [kIx_take ks t k (by omega), show (ks.take k).length = k by rw [List.length_take]; omega] at hil
      have HT := Lib.hid (fun n => hkt.below encT_len (by decide) (below_drewN W' n))
      have hkN : (k : Int) < (s.L.length : Int) := by omega
      have hfN : (f : Int) < (s.L.length : Int) := by omega
      have hLl := fltT_len s.L ks k
      have HL := Lib.hid hLa
      clear hc hba hL hkr hck hcu hyx p0 p1 hkt hLa
      by_cases hA : 0 ≤ cx ∧ f < k
      · obtain ⟨hA1, hA2⟩ := hA
        obtain ⟨cn, rfl⟩ : ∃ cn : Nat, cx = (cn : Int) := ⟨cx.toNat, by omega⟩
        have d1 : decide ((0 : Int) ≤ (cn : Int)) = true := decide_eq_true hA1
        have d2 : decide ((f : Int) < (k : Int)) = true := decide_eq_true (by omega)
        have d3 : decide (f < k) = true := decide_eq_true hA2
        have hcI : (cn : Int) < 25 := by omega
        have y6 : W'.cell? ⟨Q, cn, none⟩ = some (.int .i64 (f : Nat)) := by
          rw [HL.out.fir.cell cn, HF.out.2.2 cn (by omega)]
          simpa using hf
        by_cases hut : u = t
        · subst hut
          have hn : flt1 s.L ks k = none := by
            unfold flt1
            rw [hx, ht]
            simp only [hf]
            rw [if_pos ⟨hA1, by omega⟩, Int.toNat_natCast, hu, if_pos rfl]
          have HE := Lib.hid (HL.out.skip hn)
          have t1 : (u.toList == u.toList) = true := by simp
          clear hn hx ht hf hu
          go_wp2
          go_quiet (fail)
          generalize hU : World.drewN W' _ = U
          have hUb : Below W'.heap.size W' U := hU ▸ below_drewN _ _
          have HE2 := Lib.hid (HE.out.below hUb)
          clear hUb
          go_wp2
          go_roundw
          case rel => exact ⟨k + 1, by go_num, by omega, HE2.out⟩
          case measure => simp [intOf]; omega
        · have hn : flt1 s.L ks k = some (k, f, 161) := by
            unfold flt1
            rw [hx, ht]
            simp only [hf]
            rw [if_pos ⟨hA1, by omega⟩, Int.toNat_natCast, hu, if_neg (fun e => hut (by injection e))]
          have t1 : (u.toList == t.toList) = false := str_ne hut
          have HN := Lib.hid hn
          clear hx ht hf hu hn
          go_wp2
          go_quiet (fail)
          generalize hU : World.drewN W' _ = U
          have hUb : Below W'.heap.size W' U := hU ▸ below_drewN _ _
          clear hU
          have hU0 := (HL.out.below hUb)
          have HU := Lib.hid (hU0.below ((Below.refl U.heap.size U).alloc (Nat.le_refl _) (.cells #[.int .i64 k, .int .i64 f, .int .i64 161] 63)))
          have HK := Lib.hid (And.intro HU.out.row (World.news_of_block (cs := #[.int .i64 k, .int .i64 f, .int .i64 161]) (t := 63) (fr := (0, 0)) (World.alloc_heap_new U (.cells #[.int .i64 k, .int .i64 f, .int .i64 161] 63))))
          have hUs := hU0.bel.size
          clear hUb hU0
          have hn := HN.out
          go_wp2_with (at_builtin; refine wpList_append_own _ rfl _ _ 42 rfl w.heap.size 63 i0 (.agg #[.int .i64 0, .int .i64 0, .int .i64 0]) 3 24 Try.underlying42 hi hz0 hz1 hz2 rfl (by decide) _ _ _ rfl HK.out.1 ⟨U.heap.size, 0, none⟩ 1 1 [.int .i64 k, .int .i64 f, .int .i64 161] rfl rfl HK.out.2 (fun x hx => by simp at hx; rcases hx with rfl | rfl | rfl <;> rfl) (by unfold maxLen; omega) (by omega) (by simp; omega) ?_; intro v2 w2 hown2 hg2 _; obtain ⟨o2, c2, rfl, _⟩ := own_slice hown2; (have hA := HU.out.app hn hg2 hown2); (have HA := Lib.hid hA); clear hown2 hg2 hA)
          go_roundw
          case rel => exact ⟨k + 1, by go_num, by omega, HA.out⟩
          case measure => simp [intOf]; omega
      · by_cases hneg : cx < 0
        · have d1 : decide ((0 : Int) ≤ cx) = false := decide_eq_false (by omega)
          by_cases hki : kIx ks t < k
          · have hn : flt1 s.L ks k = some (k, kIx ks t, 162) := by
              unfold flt1
              rw [hx, ht]
              simp only
              rw [if_neg (fun e => absurd e.1 (by omega)), if_pos hki]
            rw [if_pos hki] at hil
            have d6 : decide ((0 : Int) ≤ (kIx ks t : Int)) = true := decide_eq_true (by omega)
            have HN := Lib.hid hn
            have HI := Lib.hid hki
            clear hx ht hf hu hn hki
            go_wp2
            go_quiet ((go_at_call 60; exact Calls.quiet_of_same (hil _ (HT.out _))))
            generalize hU : World.drewN W' _ = U
            have hUb : Below W'.heap.size W' U := hU ▸ below_drewN _ _
            clear hU
            have hU0 := (HL.out.below hUb)
            have HU := Lib.hid (hU0.below ((Below.refl U.heap.size U).alloc (Nat.le_refl _) (.cells #[.int .i64 k, .int .i64 (kIx ks t : Nat), .int .i64 162] 63)))
            have HK := Lib.hid (And.intro HU.out.row (World.news_of_block (cs := #[.int .i64 k, .int .i64 (kIx ks t : Nat), .int .i64 162]) (t := 63) (fr := (0, 0)) (World.alloc_heap_new U (.cells #[.int .i64 k, .int .i64 (kIx ks t : Nat), .int .i64 162] 63))))
            have hUs := hU0.bel.size
            clear hUb hU0
            have hn := HN.out
            go_wp2_with (at_builtin; refine wpList_append_own _ rfl _ _ 42 rfl w.heap.size 63 i0 (.agg #[.int .i64 0, .int .i64 0, .int .i64 0]) 3 24 Try.underlying42 hi hz0 hz1 hz2 rfl (by decide) _ _ _ rfl HK.out.1 ⟨U.heap.size, 0, none⟩ 1 1 [.int .i64 k, .int .i64 (kIx ks t : Nat), .int .i64 162] rfl rfl HK.out.2 (fun x hx => by simp at hx; rcases hx with rfl | rfl | rfl <;> rfl) (by unfold maxLen; omega) (by omega) (by simp; omega) ?_; intro v2 w2 hown2 hg2 _; obtain ⟨o2, c2, rfl, _⟩ := own_slice hown2; (have hA := HU.out.app hn hg2 hown2); (have HA := Lib.hid hA); clear hown2 hg2 hA)
            go_roundw
            case rel => exact ⟨k + 1, by go_num, by omega, HA.out⟩
            case measure => simp [intOf]; omega
          · have hn : flt1 s.L ks k = none := by
              unfold flt1
              rw [hx, ht]
              simp only
              rw [if_neg (fun e => absurd e.1 (by omega)), if_neg hki]
            rw [if_neg hki] at hil
            have HE := Lib.hid (HL.out.skip hn)
            clear hx ht hf hu hn hki
            go_wp2
            go_quiet ((go_at_call 60; exact Calls.quiet_of_same (hil _ (HT.out _))))
            generalize hU : World.drewN W' _ = U
            have hUb : Below W'.heap.size W' U := hU ▸ below_drewN _ _
            have HE2 := Lib.hid (HE.out.below hUb)
            clear hUb
            go_wp2
            go_roundw
            case rel => exact ⟨k + 1, by go_num, by omega, HE2.out⟩
            case measure => simp [intOf]; omega
        · obtain ⟨cn, rfl⟩ : ∃ cn : Nat, cx = (cn : Int) := ⟨cx.toNat, by omega⟩
          have hfe : f = k := by omega
          have d1 : decide ((0 : Int) ≤ (cn : Int)) = true := decide_eq_true (by omega)
          have d2 : decide ((f : Int) < (k : Int)) = false := decide_eq_false (by omega)
          have d3 : decide (f < k) = false := decide_eq_false (by omega)
          have hcI : (cn : Int) < 25 := by omega
          have y6 : W'.cell? ⟨Q, cn, none⟩ = some (.int .i64 (f : Nat)) := by
            rw [HL.out.fir.cell cn, HF.out.2.2 cn (by omega)]
            simpa using hf
          have hfe2 : ¬ (0 ≤ (cn : Int) ∧ fidx s.L 0 (cn : Int) < (k : Int)) := fun e => by rw [hf] at e; omega
          clear hfe
          by_cases hki : kIx ks t < k
          · have hn : flt1 s.L ks k = some (k, kIx ks t, 162) := by
              unfold flt1
              rw [hx, ht]
              simp only
              rw [if_neg hfe2, if_pos hki]
            rw [if_pos hki] at hil
            have d6 : decide ((0 : Int) ≤ (kIx ks t : Int)) = true := decide_eq_true (by omega)
            have HN := Lib.hid hn
            have HI := Lib.hid hki
            clear hfe2 hx ht hf hu hn hki
            go_wp2
            go_quiet ((go_at_call 60; exact Calls.quiet_of_same (hil _ (HT.out _))))
            generalize hU : World.drewN W' _ = U
            have hUb : Below W'.heap.size W' U := hU ▸ below_drewN _ _
            clear hU
            have hU0 := (HL.out.below hUb)
            have HU := Lib.hid (hU0.below ((Below.refl U.heap.size U).alloc (Nat.le_refl _) (.cells #[.int .i64 k, .int .i64 (kIx ks t : Nat), .int .i64 162] 63)))
            have HK := Lib.hid (And.intro HU.out.row (World.news_of_block (cs := #[.int .i64 k, .int .i64 (kIx ks t : Nat), .int .i64 162]) (t := 63) (fr := (0, 0)) (World.alloc_heap_new U (.cells #[.int .i64 k, .int .i64 (kIx ks t : Nat), .int .i64 162] 63))))
            have hUs := hU0.bel.size
            clear hUb hU0
            have hn := HN.out
            go_wp2_with (at_builtin; refine wpList_append_own _ rfl _ _ 42 rfl w.heap.size 63 i0 (.agg #[.int .i64 0, .int .i64 0, .int .i64 0]) 3 24 Try.underlying42 hi hz0 hz1 hz2 rfl (by decide) _ _ _ rfl HK.out.1 ⟨U.heap.size, 0, none⟩ 1 1 [.int .i64 k, .int .i64 (kIx ks t : Nat), .int .i64 162] rfl rfl HK.out.2 (fun x hx => by simp at hx; rcases hx with rfl | rfl | rfl <;> rfl) (by unfold maxLen; omega) (by omega) (by simp; omega) ?_; intro v2 w2 hown2 hg2 _; obtain ⟨o2, c2, rfl, _⟩ := own_slice hown2; (have hA := HU.out.app hn hg2 hown2); (have HA := Lib.hid hA); clear hown2 hg2 hA)
            go_roundw
            case rel => exact ⟨k + 1, by go_num, by omega, HA.out⟩
            case measure => simp [intOf]; omega
          · have hn : flt1 s.L ks k = none := by
              unfold flt1
              rw [hx, ht]
              simp only
              rw [if_neg hfe2, if_neg hki]
            rw [if_neg hki] at hil
            have HE := Lib.hid (HL.out.skip hn)
            clear hfe2 hx ht hf hu hn hki
            go_wp2
            go_quiet ((go_at_call 60; exact Calls.quiet_of_same (hil _ (HT.out _))))
            generalize hU : World.drewN W' _ = U
            have hUb : Below W'.heap.size W' U := hU ▸ below_drewN _ _
            have HE2 := Lib.hid (HE.out.below hUb)
            clear hUb
            go_wp2
            go_roundw
            case rel => exact ⟨k + 1, by go_num, by omega, HE2.out⟩
            case measure => simp [intOf]; omega
    · obtain rfl : k = s.L.length := by omega
      have HD := Lib.hid (And.intro hL.row hL.bel)
      clear hL
      go_wp2
      go_ret2
      exact ⟨_, rfl, HD.out.1, HD.out.2⟩
end Go.Proofs.Ytdcmkiggnmajgaa
