/- Stage 16: Classes, the program's. -/
import Derived.Test.YtdcmkiggnmajgaaVx
import Derived.Maps.AppendAt
namespace Go.Proofs.Ytdcmkiggnmajgaa
set_option linter.unusedVariables false
set_option linter.unusedSimpArgs false
open Go Go.RowKit Go.Shelf
set_option maxRecDepth 100000

theorem infoInts : (Try.prog.info? 23).map (fun i => (i.zero, i.size, i.bytes)) = some (some (.slice none 0 0), 1, 24) := by kernel_rfl
/-- 'append' as one operation of a region, and where the row lies. -/
theorem opwp_append_at {P : Program} {o : Oper} {K : Act → World → Prop} {Q : Exit → Act → World → Prop} {a : Act} {w : World} (s x : Operand) (t : TypeId)
    (ho : o.op = .call { callee := .builtin .append, args := #[s, x], argTypes := #[t, t] })
    (base : Nat) (e : TypeId) (i : TypeInfo) (z : Value) (size bytes : Nat) (ht : P.underlying t = some (.slice e)) (hi : P.info? e = some i) (hz : i.zero = some z)
    (hsize : i.size = size) (hby : i.bytes = bytes) (hzs : z.cells.size = size) (hsz : 0 < size)
    (v : Value) (n : Nat) (xs : List Value) (hs : a.eval s = v) (hown : w.ownsRow base e size v n xs)
    (ad : Addr) (m c : Nat) (news : List Value) (hx : a.eval x = .slice (some ad) m c) (hl : news.length = m * size) (hnews : ∀ j u, news[j]? = some u → w.cell? (ad.add j) = some u) (h1 : ∀ u ∈ news, u.oneCell' = true)
    (h63 : n + m ≤ maxLen) (hbytes : (n + m) * bytes ≤ 140737488355328) (hbase : base ≤ w.heap.size)
    (h : ∀ v' w', w'.ownsRow base e size v' (n + m) (xs ++ news) → w.grownBy w' v.ownBlock → (v'.ownBlock = v.ownBlock ∨ v'.ownBlock = some w.heap.size) → K (a.put o.dst v') w') : o.wp P a w K Q := by
  obtain ⟨v', w', hr, h2, h3, _, h5⟩ := run_append_own_at (P := P) w base t o.type e i z size bytes ht hi hz hsize hby hzs hsz v n xs hown ad m c news hl hnews h1 h63 hbytes hbase
  unfold Oper.wp execOp
  simp only [ho, resolve, invoke, builtin, Sem.run_bind, Sem.run_pure, Result.andThen_ok, List.map_toArray, List.map_cons, List.map_nil, hs, hx, hr]
  exact h v' w' h2 h3 h5

theorem classes_parts {s : Sc} {k : Nat} {x : Rh} (hx : s.L[k]? = some x) (hok : okR x = true) : (canC s.L x < 0 ↔ x.c < 0) := by
  unfold canC
  by_cases h : x.c < 0
  · rw [if_pos h]
  · rw [if_neg h]; constructor <;> intro h2 <;> omega
set_option maxHeartbeats 8000000 in
theorem classes_any (s : Sc) (ol os : Option Addr) (cl cs : Nat) (hfl : NForm ol s.L.length cl) (hfs : NForm os s.S.length cs) (hmay : mayB s = true) (w : World) (hr : RowAt w encR 2 ol s.L) (ht : RowAt w encI 1 os s.S) :
    Calls Try.prog 21 #[.agg #[.slice ol s.L.length cl, .slice os s.S.length cs]] w fun e w' => ∃ v, e = .returned (.tuple #[v, .int .i64 0]) ∧ NestF 0 w' w.heap.size v (lstC s.L s.L.length) ∧ Below w.heap.size w w' := by
  obtain ⟨h1, h2, h3⟩ := may_parts hmay
  obtain ⟨i0, hi, hz0, hz1, hz2⟩ := info_parts infoInt
  obtain ⟨j0, hj, hy0, hy1, hy2⟩ := info_parts infoInts
  have hB0 := (Below.refl _ w).alloc (Nat.le_refl _) (.cells #[.slice ol s.L.length cl, .slice os s.S.length cs] 25)
  have hr0 := hr.below encR_len (by decide) hB0
  have ht0 := ht.below encI_len (by decide) hB0
  have cK := fun W a b => canon_any s ol os cl cs hfl hfs hmay W a b
  go_enter Try.func21, Try.ntmps21
  go_wp2_with (fail)
  refine (cK _ hr0 ht0).mono ?_
  rintro e W1 ⟨vl, vs, rfl, hl, hs, hB⟩
  obtain ⟨o1, c1, rfl, _⟩ := own_slice hl
  obtain ⟨o2, c2, rfl, _⟩ := own_slice hs
  have hB1 := hB0.trans (hB.mono hB0.size)
  have hba := (Below.refl W1.heap.size W1).alloc (Nat.le_refl _) (.cells #[.slice o1 s.L.length c1, .slice o2 s.S.length c2] 25)
  have b4 := Blk.new W1 #[.slice o1 s.L.length c1, .slice o2 s.S.length c2] 25
  have hrow := RowAt.of_own encR_len (own_below hl hba) (canL_len s.L)
  obtain ⟨W2, hW2⟩ : ∃ W2, W1.alloc (.cells #[.slice o1 s.L.length c1, .slice o2 s.S.length c2] 25) = W2 := ⟨_, rfl⟩
  obtain ⟨Q4, hQ4⟩ : ∃ Q, W1.heap.size = Q := ⟨_, rfl⟩
  have hB2 := hB1.trans (hba.mono hB1.size)
  rw [hW2] at b4 hrow hB2
  rw [hQ4] at b4
  have x0 : W2.cell? ⟨Q4, 0, none⟩ = some (.slice o1 s.L.length c1) := b4.cell 0
  have HW := Lib.hid (And.intro hB2 (And.intro b4 hrow))
  clear hB0 hr0 ht0 hr ht cK hl hs hB hB1 hba b4 hrow hB2
  go_wp2
  try rw [hW2]
  try rw [hQ4]
  clear hW2 hQ4
  go_loopw [20, 6] (fun i v X => ∃ k : Nat, i = .int .i64 k ∧ k ≤ s.L.length ∧ NestF 0 X W2.heap.size v (lstC s.L k) ∧ Below W2.heap.size W2 X) (fun i _ _ => s.L.length - (intOf i).toNat)
  case atStart => exact ⟨0, rfl, by omega, NestF.nil _ _, Below.refl _ _⟩
  case round =>
    obtain ⟨k, rfl, hk, hN, hB⟩ := hrel
    by_cases hlt : k < s.L.length
    · obtain ⟨x, hx⟩ : ∃ x, s.L[k]? = some x := ⟨_, List.getElem?_eq_getElem hlt⟩
      have hok := List.all_eq_true.1 h2 x (List.mem_of_getElem? hx)
      obtain ⟨g, off, rfl, hc⟩ := (HW.out.2.2.below encR_len (by decide) hB) k _ (canL_get hx)
      have q0 := hc 0 (by decide)
      have q1 := hc 1 (by decide)
      simp only [encR, List.getElem?_cons_succ, List.getElem?_cons_zero, Nat.add_zero] at q0 q1
      have x1 : wr.cell? ⟨Q4, 0, none⟩ = some (.slice (some ⟨g, off, none⟩) s.L.length c1) := at_below x0 hB
      have hcp := classes_parts hx hok
      obtain ⟨on, cn, rfl, _⟩ := own_slice hN.choose_spec.1
      have hba := (Below.refl wr.heap.size wr).alloc (Nat.le_refl _) (.cells #[.int .i64 (canC s.L x), .int .i64 x.r] 79)
      have b8 := Blk.new wr #[.int .i64 (canC s.L x), .int .i64 x.r] 79
      have hNa := hN.below hba
      have hBa := hB.trans (hba.mono hB.size)
      obtain ⟨W', hW'⟩ : ∃ W', wr.alloc (.cells #[.int .i64 (canC s.L x), .int .i64 x.r] 79) = W' := ⟨_, rfl⟩
      obtain ⟨Q8, hQ8⟩ : ∃ Q, wr.heap.size = Q := ⟨_, rfl⟩
      rw [hW'] at b8 hNa hBa
      rw [hQ8] at b8
      have y8 : W'.cell? ⟨Q8, 0, none⟩ = some (.int .i64 (canC s.L x)) := b8.cell 0
      rw [lstC_len] at hNa ⊢
      by_cases hneg : x.c < 0
      · have d1 : decide (canC s.L x < 0) = true := decide_eq_true (hcp.2 hneg)
        have HE := Lib.hid (And.intro (show NestF 0 W' W2.heap.size _ (lstC s.L (k + 1)) by rw [lstC_neg hx hneg]; exact hNa) hBa)
        clear hNa hBa b8 hN hB hc hx hba hcp hok
        go_wp2
        go_roundw
        case rel => exact ⟨k + 1, by go_num, by omega, HE.out⟩
        case measure => simp [intOf]; omega
      · obtain ⟨q, hq⟩ : ∃ q : Nat, canC s.L x = (q : Int) := by
          obtain ⟨f, _, _, e, _⟩ := canC_num hx (by omega)
          exact ⟨_, e⟩
        rw [hq] at y8 q0 b8 hW'
        have d1 : decide ((q : Int) < 0) = false := decide_eq_false (by omega)
        by_cases hf : fidx s.L 0 x.c = (k : Int)
        · obtain ⟨e1, e2⟩ := lstC_new hx (by omega) hf
          have hqc : q = cntF s.L k := by omega
          rw [← hqc] at hNa ⊢
          have hks : k ≤ 512 := by omega
          have hq5 : q ≤ 512 := by rw [hqc]; have := cntF_le s.L k; omega
          have hlen : (lstC s.L k).length = q := by rw [lstC_len, hqc]
          obtain ⟨vs0, r1, r2, r3⟩ := hNa
          rw [hlen] at r1
          have hb1 := (Below.refl W'.heap.size W').alloc (Nat.le_refl _) (.cells #[.slice none 0 0] 23)
          have HE := Lib.hid (And.intro (own_below r1 hb1) (And.intro (fun j l (hj : 0 ≤ j) (hl : _ = some l) => (r2 j l hj hl).imp fun a h => And.intro h.1 (own_below h.2 hb1)) (And.intro r3 (And.intro (World.alloc_heap_new W' (.cells #[.slice none 0 0] 23)) (And.intro (b8.below' hb1) (hBa.trans (hb1.mono hBa.size)))))))
          have HG := Lib.hid (And.intro e2 hlen)
          have n1 : ((q : Int) == (q : Int)) = true := by simp
          clear hBa b8 hN hB hc hx hba hcp hok hf e1 e2 hqc r1 r2 r3 hb1 hlen
          go_wp2_with (at_builtin; refine wpList_append_own _ rfl _ _ 39 rfl W2.heap.size 23 j0 (.slice none 0 0) 1 24 Try.underlying39 hj hy0 hy1 hy2 rfl (by decide) _ _ _ rfl HE.out.1 ⟨W'.heap.size, 0, none⟩ 1 1 [.slice none 0 0] rfl rfl (cell_one_new _ _ _) (fun x hx => by simp at hx; subst hx; rfl) (by unfold maxLen; omega) (by omega) HE.out.2.2.2.2.2.size ?_; intro v2 w2 hown2 hg2 _; have HP := Lib.hid (And.intro hown2 hg2); obtain ⟨o6, c6, rfl, ho6⟩ := own_slice hown2; obtain ⟨g6, hg6⟩ := ho6 (by omega); subst hg6; clear hown2 hg2 ho6)
          obtain ⟨lq, hlq⟩ : ∃ lq : List Nat, lq = [] := ⟨_, rfl⟩
          have HN6 : Hid (NestF 0 w2 W2.heap.size (.slice (some ⟨g6, 0, none⟩) (q + 1) c6) (lstC s.L k ++ [[]])) := Lib.hid (NestF.put (l := []) (u := .slice none 0 0) (by rw [HG.out.2]; exact HE.out.1) HE.out.2.1 HE.out.2.2.1 (World.ownsRow_nil _ _ _ _) (fun _ _ _ => .inl rfl) HP.out.2 (by rw [HG.out.2]; exact HP.out.1))
          have HLS : Hid ((lstC s.L k ++ [[]])[q]? = some lq ∧ q < (lstC s.L k ++ [[]]).length ∧ (lstC s.L k ++ [[]]).set q (lq ++ [k]) = lstC s.L (k + 1) ∧ (lstC s.L k ++ [[]]).length = q + 1) := Lib.hid (by
            have h := HG.out.2
            have hl2 : (lstC s.L k ++ [[]]).length = q + 1 := by rw [List.length_append, h]; rfl
            refine ⟨by rw [List.getElem?_append_right (by omega), h, Nat.sub_self, hlq]; rfl, by omega, ?_, hl2⟩
            rw [HG.out.1, hlq, List.set_append_right _ _ (by omega), h, Nat.sub_self]; rfl)
          have HLQ := Lib.hid (show lq.length ≤ 512 by rw [hlq]; simp)
          obtain ⟨VV, hVV⟩ : ∃ VV, VV = w2 := ⟨_, rfl⟩
          subst hVV
          have HB8 := Lib.hid (And.intro (HE.out.2.2.2.2.1.kept HP.out.2 (HE.out.2.2.2.2.1.not_row (by decide) HE.out.1)) (HE.out.2.2.2.2.2.grown HP.out.2 HE.out.2.2.2.2.2.size (fun r e => (HE.out.1.lt r e).1)))
          clear hlq hW' hQ8 x1 q0 q1 HP HE
          obtain ⟨vs6, r1, r2, r3⟩ := HN6.out
          rw [HLS.out.2.2.2] at r1
          obtain ⟨u, hu, hu2⟩ := r2 q lq (Nat.zero_le _) HLS.out.1
          obtain ⟨ou, cu, rfl, _⟩ := own_slice hu2
          have hqi : (q : Int) < ((q + 1) : Int) := by have := HLS.out.2.1; have := HLS.out.2.2.2; omega
          have hll : lq.length ≤ 512 := HLQ.out
          have p6 : VV.cell? ⟨g6, q, none⟩ = some (.slice ou lq.length cu) := by
            rw [r1.cellAt q (by have := HLS.out.2.1; have := HLS.out.2.2.2; omega)]; exact hu
          have p8 : VV.cell? ⟨Q8, 0, none⟩ = some (.int .i64 (q : Nat)) := HB8.out.1.cell 0
          refine wp_region_noPanic ?_
          refine wp_region_g (S := untilG [12] (fun X => X.cell? ⟨Q8, 0, none⟩ = some (.int .i64 (q : Nat)) ∧ X.cell? ⟨g6, q, none⟩ = some (.slice ou lq.length cu))) (by kernel_rfl) ?_
          have hbd := (Below.refl VV.heap.size VV).drew
          obtain ⟨Z, hZ⟩ : ∃ Z, VV.drew = Z := ⟨_, rfl⟩
          rw [hZ] at hbd ⊢
          have T0 : Z.cell? ⟨Q8, 0, none⟩ = some (.int .i64 (q : Nat)) ∧ Z.cell? ⟨g6, q, none⟩ = some (.slice ou lq.length cu) := ⟨at_below p8 hbd, at_below p6 hbd⟩
          have hbz := (Below.refl Z.heap.size Z).alloc (Nat.le_refl _) (.cells #[.int .i64 (k : Nat)] 3)
          have hby := hbd.trans (hbz.mono hbd.size)
          have T1 : (Z.alloc (.cells #[.int .i64 (k : Nat)] 3)).cell? ⟨Q8, 0, none⟩ = some (.int .i64 (q : Nat)) ∧ (Z.alloc (.cells #[.int .i64 (k : Nat)] 3)).cell? ⟨g6, q, none⟩ = some (.slice ou lq.length cu) := ⟨at_below p8 hby, at_below p6 hby⟩
          have HY := Lib.hid (And.intro (own_below r1 hby) (And.intro (fun j l (hj : 0 ≤ j) (hl : _ = some l) => (r2 j l hj hl).imp fun a h => And.intro h.1 (own_below h.2 hby)) (And.intro r3 (And.intro hu (And.intro (own_below hu2 hby) (And.intro (World.alloc_heap_new Z (.cells #[.int .i64 (k : Nat)] 3)) (Nat.le_trans HB8.out.2.size hbd.size)))))))
          have HB8 := Lib.hid (And.intro HB8.out.1 (And.intro (HB8.out.2.trans (hby.mono HB8.out.2.size)) (HB8.out.1.below' hby)))
          clear hbd hZ hbz hby r1 r2 r3 hu hu2 p6 p8
          refine wpAnyG_take [0, 11] (i := 0) (v := (.slice (some ⟨g6, 0, none⟩) (q + 1) c6)) rfl (by kernel_rfl) (by kernel_rfl) (by kernel_rfl) (by kernel_rfl) (by kernel_rfl) (by kernel_rfl) (by kernel_rfl) (by kernel_rfl) (fun _ _ _ h => h) (Or.inl ⟨by rfl, ?hy⟩) T0 ?_
          case hy =>
            intro X hX
            go_simp
          try simp only [Act.put, List.getElem_toArray, List.getElem_cons_zero, List.getElem_cons_succ, List.setIfInBounds_toArray, List.set_cons_zero, List.set_cons_succ]
          refine wpAnyG_take [1, 2, 11] (i := 1) (v := (.pointer (some ⟨Q8, 0, none⟩))) rfl (by kernel_rfl) (by kernel_rfl) (by kernel_rfl) (by kernel_rfl) (by kernel_rfl) (by kernel_rfl) (by kernel_rfl) (by kernel_rfl) (fun _ _ _ h => h) (Or.inl ⟨by rfl, ?hy⟩) T0 ?_
          case hy =>
            intro X hX
            go_simp
          try simp only [Act.put, List.getElem_toArray, List.getElem_cons_zero, List.getElem_cons_succ, List.setIfInBounds_toArray, List.set_cons_zero, List.set_cons_succ]
          refine wpAnyG_take [2, 11] (i := 2) (v := (.int .i64 (q : Nat))) rfl (by kernel_rfl) (by kernel_rfl) (by kernel_rfl) (by kernel_rfl) (by kernel_rfl) (by kernel_rfl) (by kernel_rfl) (by kernel_rfl) (fun _ _ _ h => h) (Or.inl ⟨by rfl, ?hy⟩) T0 ?_
          case hy =>
            intro X hX
            have e0 := hX.1
            go_simp
          try simp only [Act.put, List.getElem_toArray, List.getElem_cons_zero, List.getElem_cons_succ, List.setIfInBounds_toArray, List.set_cons_zero, List.set_cons_succ]
          refine wpAnyG_take [3, 6, 7, 10] (i := 3) (v := (.slice (some ⟨g6, 0, none⟩) (q + 1) c6)) rfl (by kernel_rfl) (by kernel_rfl) (by kernel_rfl) (by kernel_rfl) (by kernel_rfl) (by kernel_rfl) (by kernel_rfl) (by kernel_rfl) (fun _ _ _ h => h) (Or.inl ⟨by rfl, ?hy⟩) T0 ?_
          case hy =>
            intro X hX
            go_simp
          try simp only [Act.put, List.getElem_toArray, List.getElem_cons_zero, List.getElem_cons_succ, List.setIfInBounds_toArray, List.set_cons_zero, List.set_cons_succ]
          refine wpAnyG_take [4, 5, 6, 7, 10] (i := 4) (v := (.pointer (some ⟨Q8, 0, none⟩))) rfl (by kernel_rfl) (by kernel_rfl) (by kernel_rfl) (by kernel_rfl) (by kernel_rfl) (by kernel_rfl) (by kernel_rfl) (by kernel_rfl) (fun _ _ _ h => h) (Or.inl ⟨by rfl, ?hy⟩) T0 ?_
          case hy =>
            intro X hX
            go_simp
          try simp only [Act.put, List.getElem_toArray, List.getElem_cons_zero, List.getElem_cons_succ, List.setIfInBounds_toArray, List.set_cons_zero, List.set_cons_succ]
          refine wpAnyG_take [5, 6, 7, 10] (i := 5) (v := (.int .i64 (q : Nat))) rfl (by kernel_rfl) (by kernel_rfl) (by kernel_rfl) (by kernel_rfl) (by kernel_rfl) (by kernel_rfl) (by kernel_rfl) (by kernel_rfl) (fun _ _ _ h => h) (Or.inl ⟨by rfl, ?hy⟩) T0 ?_
          case hy =>
            intro X hX
            have e0 := hX.1
            go_simp
          try simp only [Act.put, List.getElem_toArray, List.getElem_cons_zero, List.getElem_cons_succ, List.setIfInBounds_toArray, List.set_cons_zero, List.set_cons_succ]
          refine wpAnyG_take [6, 7, 10] (i := 6) (v := (.pointer (some ⟨g6, q, none⟩))) rfl (by kernel_rfl) (by kernel_rfl) (by kernel_rfl) (by kernel_rfl) (by kernel_rfl) (by kernel_rfl) (by kernel_rfl) (by kernel_rfl) (fun _ _ _ h => h) (Or.inl ⟨by rfl, ?hy⟩) T0 ?_
          case hy =>
            intro X hX
            go_simp
          try simp only [Act.put, List.getElem_toArray, List.getElem_cons_zero, List.getElem_cons_succ, List.setIfInBounds_toArray, List.set_cons_zero, List.set_cons_succ]
          refine wpAnyG_take [7, 10] (i := 7) (v := (.slice ou lq.length cu)) rfl (by kernel_rfl) (by kernel_rfl) (by kernel_rfl) (by kernel_rfl) (by kernel_rfl) (by kernel_rfl) (by kernel_rfl) (by kernel_rfl) (fun _ _ _ h => h) (Or.inl ⟨by rfl, ?hy⟩) T0 ?_
          case hy =>
            intro X hX
            have e0 := hX.2
            go_simp
          try simp only [Act.put, List.getElem_toArray, List.getElem_cons_zero, List.getElem_cons_succ, List.setIfInBounds_toArray, List.set_cons_zero, List.set_cons_succ]
          refine wpAnyG_take [8, 9, 10] (i := 8) (v := (.int .i64 (k : Nat))) rfl (by kernel_rfl) (by kernel_rfl) (by kernel_rfl) (by kernel_rfl) (by kernel_rfl) (by kernel_rfl) (by kernel_rfl) (by kernel_rfl) (fun _ _ _ h => h) (Or.inl ⟨by rfl, ?hy⟩) T0 ?_
          case hy =>
            intro X hX
            go_simp
          try simp only [Act.put, List.getElem_toArray, List.getElem_cons_zero, List.getElem_cons_succ, List.setIfInBounds_toArray, List.set_cons_zero, List.set_cons_succ]
          refine wpAnyG_all (rs := [9]) (by kernel_rfl) (by simp) ?_
          intro i hi
          simp only [List.mem_cons, List.not_mem_nil, or_false] at hi
          subst hi
          refine wpOp_now rfl rfl ?_
          go_simp
          refine ⟨fun _ => T1, ?_⟩
          try simp only [Act.put, List.getElem_toArray, List.getElem_cons_zero, List.getElem_cons_succ, List.setIfInBounds_toArray, List.set_cons_zero, List.set_cons_succ]
          refine wpAnyG_all (rs := [10]) (by kernel_rfl) (by simp) ?_
          intro i hi9
          simp only [List.mem_cons, List.not_mem_nil, or_false] at hi9
          subst hi9
          refine wpOp_now rfl rfl ?_
          refine opwp_append_at _ _ 23 rfl W2.heap.size 3 i0 (.int .i64 0) 1 8 Try.underlying23 hi hz0 hz1 hz2 rfl (by decide) _ _ _ rfl HY.out.2.2.2.2.1 ⟨Z.heap.size, 0, none⟩ 1 1 [.int .i64 (k : Nat)] rfl rfl (World.news_of_block (cs := #[.int .i64 (k : Nat)]) (t := 3) (fr := (0, 0)) HY.out.2.2.2.2.2.1) (fun x hx => by simp at hx; subst hx; rfl) (by show lq.length + 1 ≤ maxLen; unfold maxLen; omega) (by show (lq.length + 1) * 8 ≤ _; omega) (by have := HY.out.2.2.2.2.2.2; simp; omega) ?_
          intro v3 w3 hown3 hg3 hat3
          have hN3 := NestF.turn (ls := (lstC s.L k ++ [[]])) (i1 := 0) (l := lq ++ [k]) (q := q) (by rw [HLS.out.2.2.2]; exact HY.out.1) HY.out.2.1 HY.out.2.2.1 (Nat.le_refl _) (Nat.zero_le _) HLS.out.2.1 HY.out.2.2.2.1 (by rw [List.getD_eq_getElem?_getD, HLS.out.1]; exact HY.out.2.2.2.2.1) hg3 (fun _ => ⟨by rw [List.length_append, List.flatMap_append]; exact hown3, hat3⟩)
          rw [HLS.out.2.2.1] at hN3
          have g6u : some g6 ≠ (Value.slice ou lq.length cu).ownBlock := by
            have h5 := rows_apart HY.out.1 HY.out.2.2.2.2.1 ne_SI
            simpa [Value.ownBlock] using h5
          have hr6 := HY.out.1.kept hg3 (rows_apart HY.out.1 HY.out.2.2.2.2.1 ne_SI)
          have p6 : w3.cell? ⟨g6, q, none⟩ = some (.slice ou lq.length cu) := by
            rw [hr6.cellAt q (by have := HLS.out.2.1; have := HLS.out.2.2.2; omega)]; exact HY.out.2.2.2.1
          have f6 := own_freeK hr6 q
          have b83 := HB8.out.2.2.kept hg3 (HB8.out.2.2.not_row (by decide) HY.out.2.2.2.2.1)
          have T3 : w3.cell? ⟨Q8, 0, none⟩ = some (.int .i64 (q : Nat)) ∧ w3.cell? ⟨g6, q, none⟩ = some (.slice ou lq.length cu) := ⟨b83.cell 0, p6⟩
          have hB3 := (HB8.out.2.1.grown hg3 HB8.out.2.1.size (fun r e => (HY.out.2.2.2.2.1.lt r e).1)).setCell (p := ⟨g6, q, none⟩) (HY.out.1.lt g6 rfl).1 v3
          obtain ⟨o3, c3, rfl, _⟩ := own_slice hown3
          have HW3 := Lib.hid (And.intro hN3 hB3)
          clear hN3 hr6 b83 hB3 hown3 hg3 hat3 g6u
          refine ⟨fun _ => T3, ?_⟩
          try simp only [Act.put, List.getElem_toArray, List.getElem_cons_zero, List.getElem_cons_succ, List.setIfInBounds_toArray, List.set_cons_zero, List.set_cons_succ]
          refine wpAnyG_all (rs := [11]) (by kernel_rfl) (by simp) ?_
          intro i hi
          simp only [List.mem_cons, List.not_mem_nil, or_false] at hi
          subst hi
          refine wpOp_now rfl rfl ?_
          go_simp
          refine ⟨fun _ => T3, ?_⟩
          try simp only [Act.put, List.getElem_toArray, List.getElem_cons_zero, List.getElem_cons_succ, List.setIfInBounds_toArray, List.set_cons_zero, List.set_cons_succ]
          refine wpAnyG_all (rs := [12]) (by kernel_rfl) (by simp) ?_
          intro i hi
          simp only [List.mem_cons, List.not_mem_nil, or_false] at hi
          subst hi
          refine wpOp_now rfl rfl ?_
          go_simp
          refine ⟨fun h => (nomatch (show (false : Bool) = true from h)), ?_⟩
          try simp only [Act.put, List.getElem_toArray, List.getElem_cons_zero, List.getElem_cons_succ, List.setIfInBounds_toArray, List.set_cons_zero, List.set_cons_succ]
          refine wpAnyG_done (by kernel_rfl) ?_ _
          refine NoPanic.normal ?_
          have HN7 := Lib.hid HW3.out
          clear T0 T1 T3
          go_wp2
          go_roundw
          case rel => exact ⟨k + 1, by go_num, by omega, HN7.out⟩
          case measure => simp [intOf]; omega
        · obtain ⟨e1, e2, e3⟩ := lstC_old hx (by omega) hq hf
          have n1 : ((q : Int) == (cntF s.L k : Int)) = false := by rw [beq_eq_false_iff_ne]; omega
          have n2 : (q == cntF s.L k) = false := by rw [beq_eq_false_iff_ne]; omega
          have HE := Lib.hid (And.intro hNa (And.intro hBa (And.intro b8 (And.intro e2 e3))))
          clear hNa hBa b8 hN hB hc hx hba hcp hok hf e2 e3
          go_wp2
          try rw [hW']
          try rw [hQ8]
          obtain ⟨VV, hVV⟩ : ∃ VV, VV = W' := ⟨_, rfl⟩
          subst hVV
          obtain ⟨lq, hlq⟩ : ∃ lq, inL s.L k q = lq := ⟨_, rfl⟩
          have HLQ := Lib.hid (show lq.length ≤ 512 by rw [← hlq]; have := inL_len s.L k q; omega)
          have HLS : Hid ((lstC s.L k)[q]? = some lq ∧ q < (lstC s.L k).length ∧ (lstC s.L k).set q (lq ++ [k]) = lstC s.L (k + 1) ∧ (lstC s.L k).length = cntF s.L k) := Lib.hid ⟨by rw [← hlq]; exact HE.out.2.2.2.1, by rw [lstC_len]; exact e1, by rw [← hlq]; exact HE.out.2.2.2.2.symm, lstC_len _ _⟩
          obtain ⟨g6, hg6⟩ : ∃ g, on = some ⟨g, 0, none⟩ := by
            obtain ⟨vs6, r1, _⟩ := HE.out.1
            rw [lstC_len] at r1
            obtain ⟨_, _, e, h⟩ := own_slice r1
            cases e
            exact h (by omega)
          subst hg6
          obtain ⟨c6, hc6⟩ : ∃ c, cn = c := ⟨_, rfl⟩
          subst hc6
          have HN6 : Hid (NestF 0 VV W2.heap.size (.slice (some ⟨g6, 0, none⟩) (cntF s.L k) cn) (lstC s.L k)) := Lib.hid HE.out.1
          have HB8 := Lib.hid (And.intro HE.out.2.2.1 HE.out.2.1)
          clear hlq hW' hQ8 HE x1 q0 q1
          obtain ⟨vs6, r1, r2, r3⟩ := HN6.out
          rw [HLS.out.2.2.2] at r1
          obtain ⟨u, hu, hu2⟩ := r2 q lq (Nat.zero_le _) HLS.out.1
          obtain ⟨ou, cu, rfl, _⟩ := own_slice hu2
          have hqi : (q : Int) < ((cntF s.L k) : Int) := by have := HLS.out.2.1; have := HLS.out.2.2.2; omega
          have hll : lq.length ≤ 512 := HLQ.out
          have p6 : VV.cell? ⟨g6, q, none⟩ = some (.slice ou lq.length cu) := by
            rw [r1.cellAt q (by have := HLS.out.2.1; have := HLS.out.2.2.2; omega)]; exact hu
          have p8 : VV.cell? ⟨Q8, 0, none⟩ = some (.int .i64 (q : Nat)) := HB8.out.1.cell 0
          refine wp_region_noPanic ?_
          refine wp_region_g (S := untilG [12] (fun X => X.cell? ⟨Q8, 0, none⟩ = some (.int .i64 (q : Nat)) ∧ X.cell? ⟨g6, q, none⟩ = some (.slice ou lq.length cu))) (by kernel_rfl) ?_
          have hbd := (Below.refl VV.heap.size VV).drew
          obtain ⟨Z, hZ⟩ : ∃ Z, VV.drew = Z := ⟨_, rfl⟩
          rw [hZ] at hbd ⊢
          have T0 : Z.cell? ⟨Q8, 0, none⟩ = some (.int .i64 (q : Nat)) ∧ Z.cell? ⟨g6, q, none⟩ = some (.slice ou lq.length cu) := ⟨at_below p8 hbd, at_below p6 hbd⟩
          have hbz := (Below.refl Z.heap.size Z).alloc (Nat.le_refl _) (.cells #[.int .i64 (k : Nat)] 3)
          have hby := hbd.trans (hbz.mono hbd.size)
          have T1 : (Z.alloc (.cells #[.int .i64 (k : Nat)] 3)).cell? ⟨Q8, 0, none⟩ = some (.int .i64 (q : Nat)) ∧ (Z.alloc (.cells #[.int .i64 (k : Nat)] 3)).cell? ⟨g6, q, none⟩ = some (.slice ou lq.length cu) := ⟨at_below p8 hby, at_below p6 hby⟩
          have HY := Lib.hid (And.intro (own_below r1 hby) (And.intro (fun j l (hj : 0 ≤ j) (hl : _ = some l) => (r2 j l hj hl).imp fun a h => And.intro h.1 (own_below h.2 hby)) (And.intro r3 (And.intro hu (And.intro (own_below hu2 hby) (And.intro (World.alloc_heap_new Z (.cells #[.int .i64 (k : Nat)] 3)) (Nat.le_trans HB8.out.2.size hbd.size)))))))
          have HB8 := Lib.hid (And.intro HB8.out.1 (And.intro (HB8.out.2.trans (hby.mono HB8.out.2.size)) (HB8.out.1.below' hby)))
          clear hbd hZ hbz hby r1 r2 r3 hu hu2 p6 p8
          refine wpAnyG_take [0, 11] (i := 0) (v := (.slice (some ⟨g6, 0, none⟩) (cntF s.L k) cn)) rfl (by kernel_rfl) (by kernel_rfl) (by kernel_rfl) (by kernel_rfl) (by kernel_rfl) (by kernel_rfl) (by kernel_rfl) (by kernel_rfl) (fun _ _ _ h => h) (Or.inl ⟨by rfl, ?hy⟩) T0 ?_
          case hy =>
            intro X hX
            go_simp
          try simp only [Act.put, List.getElem_toArray, List.getElem_cons_zero, List.getElem_cons_succ, List.setIfInBounds_toArray, List.set_cons_zero, List.set_cons_succ]
          refine wpAnyG_take [1, 2, 11] (i := 1) (v := (.pointer (some ⟨Q8, 0, none⟩))) rfl (by kernel_rfl) (by kernel_rfl) (by kernel_rfl) (by kernel_rfl) (by kernel_rfl) (by kernel_rfl) (by kernel_rfl) (by kernel_rfl) (fun _ _ _ h => h) (Or.inl ⟨by rfl, ?hy⟩) T0 ?_
          case hy =>
            intro X hX
            go_simp
          try simp only [Act.put, List.getElem_toArray, List.getElem_cons_zero, List.getElem_cons_succ, List.setIfInBounds_toArray, List.set_cons_zero, List.set_cons_succ]
          refine wpAnyG_take [2, 11] (i := 2) (v := (.int .i64 (q : Nat))) rfl (by kernel_rfl) (by kernel_rfl) (by kernel_rfl) (by kernel_rfl) (by kernel_rfl) (by kernel_rfl) (by kernel_rfl) (by kernel_rfl) (fun _ _ _ h => h) (Or.inl ⟨by rfl, ?hy⟩) T0 ?_
          case hy =>
            intro X hX
            have e0 := hX.1
            go_simp
          try simp only [Act.put, List.getElem_toArray, List.getElem_cons_zero, List.getElem_cons_succ, List.setIfInBounds_toArray, List.set_cons_zero, List.set_cons_succ]
          refine wpAnyG_take [3, 6, 7, 10] (i := 3) (v := (.slice (some ⟨g6, 0, none⟩) (cntF s.L k) cn)) rfl (by kernel_rfl) (by kernel_rfl) (by kernel_rfl) (by kernel_rfl) (by kernel_rfl) (by kernel_rfl) (by kernel_rfl) (by kernel_rfl) (fun _ _ _ h => h) (Or.inl ⟨by rfl, ?hy⟩) T0 ?_
          case hy =>
            intro X hX
            go_simp
          try simp only [Act.put, List.getElem_toArray, List.getElem_cons_zero, List.getElem_cons_succ, List.setIfInBounds_toArray, List.set_cons_zero, List.set_cons_succ]
          refine wpAnyG_take [4, 5, 6, 7, 10] (i := 4) (v := (.pointer (some ⟨Q8, 0, none⟩))) rfl (by kernel_rfl) (by kernel_rfl) (by kernel_rfl) (by kernel_rfl) (by kernel_rfl) (by kernel_rfl) (by kernel_rfl) (by kernel_rfl) (fun _ _ _ h => h) (Or.inl ⟨by rfl, ?hy⟩) T0 ?_
          case hy =>
            intro X hX
            go_simp
          try simp only [Act.put, List.getElem_toArray, List.getElem_cons_zero, List.getElem_cons_succ, List.setIfInBounds_toArray, List.set_cons_zero, List.set_cons_succ]
          refine wpAnyG_take [5, 6, 7, 10] (i := 5) (v := (.int .i64 (q : Nat))) rfl (by kernel_rfl) (by kernel_rfl) (by kernel_rfl) (by kernel_rfl) (by kernel_rfl) (by kernel_rfl) (by kernel_rfl) (by kernel_rfl) (fun _ _ _ h => h) (Or.inl ⟨by rfl, ?hy⟩) T0 ?_
          case hy =>
            intro X hX
            have e0 := hX.1
            go_simp
          try simp only [Act.put, List.getElem_toArray, List.getElem_cons_zero, List.getElem_cons_succ, List.setIfInBounds_toArray, List.set_cons_zero, List.set_cons_succ]
          refine wpAnyG_take [6, 7, 10] (i := 6) (v := (.pointer (some ⟨g6, q, none⟩))) rfl (by kernel_rfl) (by kernel_rfl) (by kernel_rfl) (by kernel_rfl) (by kernel_rfl) (by kernel_rfl) (by kernel_rfl) (by kernel_rfl) (fun _ _ _ h => h) (Or.inl ⟨by rfl, ?hy⟩) T0 ?_
          case hy =>
            intro X hX
            go_simp
          try simp only [Act.put, List.getElem_toArray, List.getElem_cons_zero, List.getElem_cons_succ, List.setIfInBounds_toArray, List.set_cons_zero, List.set_cons_succ]
          refine wpAnyG_take [7, 10] (i := 7) (v := (.slice ou lq.length cu)) rfl (by kernel_rfl) (by kernel_rfl) (by kernel_rfl) (by kernel_rfl) (by kernel_rfl) (by kernel_rfl) (by kernel_rfl) (by kernel_rfl) (fun _ _ _ h => h) (Or.inl ⟨by rfl, ?hy⟩) T0 ?_
          case hy =>
            intro X hX
            have e0 := hX.2
            go_simp
          try simp only [Act.put, List.getElem_toArray, List.getElem_cons_zero, List.getElem_cons_succ, List.setIfInBounds_toArray, List.set_cons_zero, List.set_cons_succ]
          refine wpAnyG_take [8, 9, 10] (i := 8) (v := (.int .i64 (k : Nat))) rfl (by kernel_rfl) (by kernel_rfl) (by kernel_rfl) (by kernel_rfl) (by kernel_rfl) (by kernel_rfl) (by kernel_rfl) (by kernel_rfl) (fun _ _ _ h => h) (Or.inl ⟨by rfl, ?hy⟩) T0 ?_
          case hy =>
            intro X hX
            go_simp
          try simp only [Act.put, List.getElem_toArray, List.getElem_cons_zero, List.getElem_cons_succ, List.setIfInBounds_toArray, List.set_cons_zero, List.set_cons_succ]
          refine wpAnyG_all (rs := [9]) (by kernel_rfl) (by simp) ?_
          intro i hi
          simp only [List.mem_cons, List.not_mem_nil, or_false] at hi
          subst hi
          refine wpOp_now rfl rfl ?_
          go_simp
          refine ⟨fun _ => T1, ?_⟩
          try simp only [Act.put, List.getElem_toArray, List.getElem_cons_zero, List.getElem_cons_succ, List.setIfInBounds_toArray, List.set_cons_zero, List.set_cons_succ]
          refine wpAnyG_all (rs := [10]) (by kernel_rfl) (by simp) ?_
          intro i hi9
          simp only [List.mem_cons, List.not_mem_nil, or_false] at hi9
          subst hi9
          refine wpOp_now rfl rfl ?_
          refine opwp_append_at _ _ 23 rfl W2.heap.size 3 i0 (.int .i64 0) 1 8 Try.underlying23 hi hz0 hz1 hz2 rfl (by decide) _ _ _ rfl HY.out.2.2.2.2.1 ⟨Z.heap.size, 0, none⟩ 1 1 [.int .i64 (k : Nat)] rfl rfl (World.news_of_block (cs := #[.int .i64 (k : Nat)]) (t := 3) (fr := (0, 0)) HY.out.2.2.2.2.2.1) (fun x hx => by simp at hx; subst hx; rfl) (by show lq.length + 1 ≤ maxLen; unfold maxLen; omega) (by show (lq.length + 1) * 8 ≤ _; omega) (by have := HY.out.2.2.2.2.2.2; simp; omega) ?_
          intro v3 w3 hown3 hg3 hat3
          have hN3 := NestF.turn (ls := (lstC s.L k)) (i1 := 0) (l := lq ++ [k]) (q := q) (by rw [HLS.out.2.2.2]; exact HY.out.1) HY.out.2.1 HY.out.2.2.1 (Nat.le_refl _) (Nat.zero_le _) HLS.out.2.1 HY.out.2.2.2.1 (by rw [List.getD_eq_getElem?_getD, HLS.out.1]; exact HY.out.2.2.2.2.1) hg3 (fun _ => ⟨by rw [List.length_append, List.flatMap_append]; exact hown3, hat3⟩)
          rw [HLS.out.2.2.1] at hN3
          have g6u : some g6 ≠ (Value.slice ou lq.length cu).ownBlock := by
            have h5 := rows_apart HY.out.1 HY.out.2.2.2.2.1 ne_SI
            simpa [Value.ownBlock] using h5
          have hr6 := HY.out.1.kept hg3 (rows_apart HY.out.1 HY.out.2.2.2.2.1 ne_SI)
          have p6 : w3.cell? ⟨g6, q, none⟩ = some (.slice ou lq.length cu) := by
            rw [hr6.cellAt q (by have := HLS.out.2.1; have := HLS.out.2.2.2; omega)]; exact HY.out.2.2.2.1
          have f6 := own_freeK hr6 q
          have b83 := HB8.out.2.2.kept hg3 (HB8.out.2.2.not_row (by decide) HY.out.2.2.2.2.1)
          have T3 : w3.cell? ⟨Q8, 0, none⟩ = some (.int .i64 (q : Nat)) ∧ w3.cell? ⟨g6, q, none⟩ = some (.slice ou lq.length cu) := ⟨b83.cell 0, p6⟩
          have hB3 := (HB8.out.2.1.grown hg3 HB8.out.2.1.size (fun r e => (HY.out.2.2.2.2.1.lt r e).1)).setCell (p := ⟨g6, q, none⟩) (HY.out.1.lt g6 rfl).1 v3
          obtain ⟨o3, c3, rfl, _⟩ := own_slice hown3
          have HW3 := Lib.hid (And.intro hN3 hB3)
          clear hN3 hr6 b83 hB3 hown3 hg3 hat3 g6u
          refine ⟨fun _ => T3, ?_⟩
          try simp only [Act.put, List.getElem_toArray, List.getElem_cons_zero, List.getElem_cons_succ, List.setIfInBounds_toArray, List.set_cons_zero, List.set_cons_succ]
          refine wpAnyG_all (rs := [11]) (by kernel_rfl) (by simp) ?_
          intro i hi
          simp only [List.mem_cons, List.not_mem_nil, or_false] at hi
          subst hi
          refine wpOp_now rfl rfl ?_
          go_simp
          refine ⟨fun _ => T3, ?_⟩
          try simp only [Act.put, List.getElem_toArray, List.getElem_cons_zero, List.getElem_cons_succ, List.setIfInBounds_toArray, List.set_cons_zero, List.set_cons_succ]
          refine wpAnyG_all (rs := [12]) (by kernel_rfl) (by simp) ?_
          intro i hi
          simp only [List.mem_cons, List.not_mem_nil, or_false] at hi
          subst hi
          refine wpOp_now rfl rfl ?_
          go_simp
          refine ⟨fun h => (nomatch (show (false : Bool) = true from h)), ?_⟩
          try simp only [Act.put, List.getElem_toArray, List.getElem_cons_zero, List.getElem_cons_succ, List.setIfInBounds_toArray, List.set_cons_zero, List.set_cons_succ]
          refine wpAnyG_done (by kernel_rfl) ?_ _
          refine NoPanic.normal ?_
          have HN7 := Lib.hid HW3.out
          clear T0 T1 T3
          go_wp2
          go_roundw
          case rel => exact ⟨k + 1, by go_num, by omega, HN7.out⟩
          case measure => simp [intOf]; omega
    · obtain rfl : k = s.L.length := by omega
      obtain ⟨on, cn, rfl, _⟩ := own_slice hN.choose_spec.1
      have HE := Lib.hid (And.intro (hN.base HW.out.1.size) (HW.out.1.trans (hB.mono HW.out.1.size)))
      clear hN hB
      go_wp2
      go_ret2
      exact ⟨_, rfl, HE.out⟩
end Go.Proofs.Ytdcmkiggnmajgaa
