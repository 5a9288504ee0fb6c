/- RunesForms: the law's call, at every list of runes. -/
import Derived.Test.YtaogmmhkpknkmaaOf
import Derived.Test.YtaogmmhkpknkmaaWk
import Derived.BigQuiet
import Derived.Deep.QuietTactic
import Derived.Deep.Upon
namespace Go.Proofs.Ytaogmmhkpknkmaa
set_option linter.unusedVariables false
set_option linter.unusedSimpArgs false
open Go Go.RowKit
set_option maxRecDepth 100000

/-- append(full, l...): full a row of one's own, l whatever list of runes. -/
theorem append_row (w : World) {ops : Array Oper} {rest : List Oper} {o : Oper} {a : Act} {Q : Exit → Act → World → Prop} (hgd : o.guard = none) (s x : Operand)
    (ho : o.op = .call { callee := .builtin .append, args := #[s, x], argTypes := #[22, 22] }) (base : Nat) (i : TypeInfo)
    (hi : Try.prog.info? 21 = some i) (hz0 : i.zero = some (.int .i32 0)) (hz1 : i.size = 1) (hz2 : i.bytes = 4)
    (ad : Option Addr) (n cap : Nat) (xs : List Value) (hs : a.eval s = .slice ad n cap) (hown : w.ownsRow base 21 1 (.slice ad n cap) n xs)
    (od : Option Addr) (m c : Nat) (zs : List Int) (hm : zs.length = m) (hx : a.eval x = .slice od m c) (hrow : RowI w od zs)
    (h63 : n + m ≤ maxLen) (hbytes : (n + m) * 4 ≤ 140737488355328) (hbase : base ≤ w.heap.size)
    (h : ∀ v' w', w'.ownsRow base 21 1 v' (n + m) (xs ++ zs.map (Value.int .i32)) → w.grownBy w' (Value.ownBlock (.slice ad n cap)) → wpList Try.prog ops Q rest (a.put o.dst v') w') : wpList Try.prog ops Q (o :: rest) a w := by
  by_cases hm0 : m = 0
  · have hz : zs = [] := List.eq_nil_of_length_eq_zero (by omega)
    subst hm0; subst hz
    refine wpList_plain hgd fun K hK => ?_
    have hle : n ≤ cap := by
      rcases hown.2 with ⟨h1, h2⟩ | ⟨g, c', cur, h1, _, _, h3, _⟩
      · omega
      · cases h1; exact h3
    have hS : Src Try.prog i.size 22 (.slice od 0 c) 0 [] w := by
      cases od with
      | none => exact Src.ofNil w Try.underlying22 c
      | some ad' => exact Src.ofSlice w Try.underlying22 ad' 0 c [] (by simp) (by intro j u hj; simp at hj) (by intro u hu; simp at hu)
    have hr := run_append_nothing (P := Try.prog) w 22 22 o.type 21 i Try.underlying22 hi ad n cap hle (.slice od 0 c) hS
    unfold Oper.wp execOp
    simp only [ho, resolve, invoke, builtin, Sem.run_bind, Sem.run_pure, Result.andThen_ok, List.map_toArray, List.map_cons, List.map_nil, hs, hx, hr]
    exact hK _ _ (h _ _ (by simpa using hown) ⟨rfl, rfl, rfl, Nat.le_refl _, fun _ _ _ => rfl⟩)
  · obtain ⟨b, off, rfl, _⟩ := hrow 0 (by omega)
    refine wpList_append_own w hgd s x 22 ho base 21 i (.int .i32 0) 1 4 Try.underlying22 hi hz0 hz1 hz2 rfl (by decide) _ n xs hs hown ⟨b, off, none⟩ m c (zs.map (Value.int .i32)) hx (by simp; omega) (fun j u hj => ?_) (fun u hu => ?_) h63 hbytes hbase (fun v' w' h1 h2 _ => h v' w' h1 h2)
    · have hjl : j < zs.length := by
        have := (List.getElem?_eq_some_iff.1 hj).1
        simpa using this
      obtain ⟨b', off', e, hc⟩ := hrow j hjl
      cases e
      rw [Addr.add_lit, hc]
      simp only [List.getElem?_map, List.getElem?_eq_getElem hjl, Option.map_some, Option.some.injEq] at hj
      rw [List.getD_eq_getElem?_getD, List.getElem?_eq_getElem hjl, ← hj]; rfl
    · simp only [List.mem_map] at hu
      obtain ⟨z, _, rfl⟩ := hu
      rfl

theorem info32 : (Try.prog.info? 21).map (fun i => (i.zero, i.size, i.bytes)) = some (some (.int .i32 0), 1, 4) := by kernel_rfl

/-- The list, and k times -9 behind it. -/
def fl (zs : List Int) (k : Nat) : List Value := zs.map (Value.int .i32) ++ List.replicate k (Value.int .i32 (-9))
theorem fl_snoc (zs : List Int) (k : Nat) : fl zs (k + 1) = fl zs k ++ [Value.int .i32 (-9)] := by
  unfold fl; rw [List.replicate_succ', List.append_assoc]

def FA (zs : List Int) (w : World) (v i : Value) (wr : World) : Prop :=
  ∃ k : Nat, i = .int .i64 k ∧ k ≤ 70 ∧ wr.ownsRow w.heap.size 21 1 v (zs.length + k) (fl zs k) ∧ Below w.heap.size w wr

theorem own_form {w : World} {b : Nat} {e : TypeId} {sz n : Nat} {v : Value} {xs : List Value} (h : w.ownsRow b e sz v n xs) (hn : 0 < n) : ∃ g c, v = .slice (some ⟨g, 0, none⟩) n c ∧ n ≤ c ∧ c ≤ maxLen := by
  rcases h.2 with ⟨h1, h2⟩ | ⟨g, c, cur, h1, _, _, h3, h4, _⟩
  · omega
  · exact ⟨g, c, h1, h3, h4⟩

theorem below_drewN' {B : Nat} {a w : World} (h : Below B a w) (n : Nat) : Below B a (w.drewN n) := h.trans ⟨rfl, rfl, rfl, Nat.le_refl _, fun _ _ => rfl⟩

theorem fl_lo {zs : List Int} {w : World} {base g c n k : Nat} (h : w.ownsRow base 21 1 (.slice (some ⟨g, 0, none⟩) n c) n (fl zs 70)) (hk : k < zs.length) (hn : k < n) : w.cell? ⟨g, k, none⟩ = some (.int .i32 (zs.getD k 0)) := by
  rw [h.cellAt k (by omega)]
  simp [fl, List.getElem?_append_left, hk, List.getD_eq_getElem?_getD]
theorem fl_hi {zs : List Int} {w : World} {base g c n k : Nat} (h : w.ownsRow base 21 1 (.slice (some ⟨g, 0, none⟩) n c) n (fl zs 70)) (hk : zs.length ≤ k) (hn : k < n) (hz : n = zs.length + 70) : w.cell? ⟨g, k, none⟩ = some (.int .i32 (-9)) := by
  rw [h.cellAt k (by omega), fl, List.getElem?_append_right (by simpa using hk), List.getElem?_replicate, if_pos (by simp; omega)]

def FB (zs : List Int) (w : World) (g n c : Nat) (i : Value) (wr : World) : Prop :=
  ∃ k : Nat, i = .int .i64 k ∧ k ≤ n + 70 ∧ wr.ownsRow w.heap.size 21 1 (.slice (some ⟨g, 0, none⟩) (n + 70) c) (n + 70) (fl zs 70) ∧ Below w.heap.size w wr
def FC (w : World) (n : Nat) (i : Value) (wr : World) : Prop := ∃ k : Nat, i = .int .i64 k ∧ k ≤ n ∧ Below w.heap.size w wr

set_option maxHeartbeats 2000000 in
theorem forms_any (o : Option Addr) (n cap : Nat) (zs : List Int) (hn : zs.length = n) (hs : n ≤ 35184372087808) (w : World) (hrow : RowI w o zs) :
    Calls Try.prog 3 #[.slice o n cap] w fun e w' => e = .returned (.bool true) ∧ Below w.heap.size w w' := by
  obtain ⟨i0, hi, hz0, hz1, hz2⟩ := info_parts info32
  have HN := Lib.hid hn
  have HR := Lib.hid hrow
  clear hn hrow
  go_enter Try.func3, Try.ntmps3
  go_wp2_with (first | (go_at_call 5; refine (wakes_any _).mono ?_; rintro e w1 ⟨rfl, hb1⟩) | (refine wpList_make_own _ rfl _ _ 22 rfl w.heap.size 21 i0 (.int .i32 0) 1 Try.underlying22 hi hz0 hz1 _ _ _ (n + 70) rfl rfl (by push_cast; rfl) (by rw [hz2]; omega) (by unfold maxLen; omega) hb1.size ?_; intro w2 hown hg2; have hB2 : Below w.heap.size w w2 := hb1.grown hg2 hb1.size (fun k hk => by cases hk)) | (at_builtin; refine append_row _ rfl _ _ rfl w.heap.size i0 hi hz0 hz1 hz2 _ 0 _ _ rfl hown _ n _ zs HN.out rfl (rowI_kept HR.out hB2) (by unfold maxLen; omega) (by omega) hB2.size ?_; intro v3 w3 hown3 hg3))
  have hB3 : Below w.heap.size w w3 := hB2.grown hg3 hB2.size (fun k hk => (hown.lt k hk).1)
  have hv0 : w3.ownsRow w.heap.size 21 1 v3 (zs.length + 0) (fl zs 0) := by
    have : fl zs 0 = [] ++ zs.map (Value.int .i32) := by simp [fl]
    rw [this, HN.out, show n + 0 = 0 + n by omega]; exact hown3
  clear hown hown3 hg2 hg3 hB2 hb1
  go_loopw [3, 4] (fun v i wr => FA zs w v i wr) (fun _ i _ => 70 - (intOf i).toNat)
  case atStart => exact ⟨0, rfl, by omega, hv0, hB3⟩
  case round =>
    clear hv0 hB3
    obtain ⟨k, rfl, hk, hv, hB⟩ := hrel
    by_cases hlt : k < 70
    · go_wp2_with (at_builtin; refine wpList_append_own _ rfl _ _ 22 rfl w.heap.size 21 i0 (.int .i32 0) 1 4 Try.underlying22 hi hz0 hz1 hz2 rfl (by decide) _ _ _ rfl (hv.alloc _) ⟨wr.heap.size, 0, none⟩ 1 1 [.int .i32 (-9)] rfl rfl (cell_one_new _ _ _) (fun x hx => by simp at hx; subst hx; rfl) (by rw [HN.out]; unfold maxLen; omega) (by rw [HN.out]; omega) (by have := hB.size; simp; omega) ?_; intro v' w4 hown' hgrow _)
      go_roundw
      case rel => exact ⟨k + 1, by go_num, by omega, by rw [fl_snoc]; exact hown', (hB.alloc hB.size _).grown hgrow (by have := hB.size; simp; omega) (fun j hj => (hv.lt j hj).1)⟩
      case measure => simp [intOf]; omega
    · have hk70 : k = 70 := by omega
      subst hk70
      have hv1 := hv
      rw [HN.out] at hv1
      obtain ⟨g, c2, rfl, hc1, hc2⟩ := own_form hv1 (by omega)
      unfold maxLen at hc2
      have f1 : (0 : Int) ≤ (n : Int) := by omega
      have f2 : (n : Int) ≤ (c2 : Int) := by omega
      have hrg : RowI wr (some ⟨g, 0, none⟩) zs := by
        intro i hi
        refine ⟨g, 0, rfl, ?_⟩
        have hl : i < n := by have := HN.out; omega
        rw [Nat.zero_add, hv1.cellAt i (by omega)]
        simp [fl, List.getElem?_append_left, hi, List.getD_eq_getElem?_getD]
      go_wp2_with (first | (go_at_call 6; refine (of_any _ n _ zs HN.out hs _ hrg).mono ?_; rintro e w5 ⟨rfl, hb5⟩))
      have hBw5 : Below w.heap.size w w5 := hB.trans (hb5.mono hB.size)
      have hv5 := own_below hv1 hb5
      clear hv hv1 hrg hB hb5 f1 f2 hk hlt
      go_loopw [32] (fun i wr => FB zs w g n c2 i wr) (fun i _ => n + 70 - (intOf i).toNat)
      case atStart => exact ⟨0, rfl, by omega, hv5, hBw5⟩
      case round =>
        clear hv5 hBw5
        obtain ⟨k, rfl, hk, hv, hB⟩ := hrel
        have hRr := rowI_kept HR.out hB
        by_cases hlt : k < n + 70
        · have f0 : (k : Int) < (n : Int) + 70 := by omega
          have f3 : (0 : Int) ≤ (k : Int) := by omega
          have f4 : ((k : Int)).toNat = k := by omega
          by_cases hkn : k < n
          · obtain ⟨b, off, rfl, hcl⟩ := hRr k (by rw [HN.out]; exact hkn)
            obtain ⟨r, hr⟩ : ∃ r, zs.getD k 0 = r := ⟨_, rfl⟩
            have hcg := fl_lo hv (by rw [HN.out]; exact hkn) (by omega)
            rw [hr] at hcl hcg
            have hdk : decide ((k : Int) < (n : Int)) = true := by simp; omega
            have hdk2 : decide ((n : Int) ≤ (k : Int)) = false := by simp; omega
            have hdk3 : decide (n ≤ k) = false := by simp; omega
            have f6 : ¬ (n : Int) ≤ (k : Int) := by omega
            have f7 : ¬ n ≤ k := by omega
            have hdk4 : decide ((k : Int) ≥ (n : Int)) = false := by simp; omega
            have f5 : (k : Int) < (n : Int) := by omega
            clear hr hRr
            have HV := Lib.hid hv; clear hv
            go_wp2
            go_quiet (fail)
            go_wp2
            go_roundw
            case rel => exact ⟨k + 1, by go_num, by omega, own_below HV.out (below_drewN' (Below.refl _ _) _), below_drewN' hB _⟩
            case measure => simp [intOf]; omega
          · have hcg := fl_hi hv (by rw [HN.out]; omega) hlt (by rw [HN.out])
            have hdk : decide ((k : Int) < (n : Int)) = false := by simp; omega
            have hdk2 : decide ((n : Int) ≤ (k : Int)) = true := by simp; omega
            have f5 : ¬ (k : Int) < (n : Int) := by omega
            clear hRr
            have HV := Lib.hid hv; clear hv
            go_wp2
            go_quiet (fail)
            go_wp2
            go_roundw
            case rel => exact ⟨k + 1, by go_num, by omega, own_below HV.out (below_drewN' (Below.refl _ _) _), below_drewN' hB _⟩
            case measure => simp [intOf]; omega
        · clear hv
          go_wp2_with (first | (go_at_call 7; refine (ofR_any _ n _ zs HN.out hs _ hRr).mono ?_; rintro e w6 ⟨rfl, hb6⟩))
          have hB6 : Below w.heap.size w w6 := hB.trans (hb6.mono hB.size)
          clear hRr hb6 hB
          go_loopw [70] (fun i wr => FC w n i wr) (fun i _ => n - (intOf i).toNat)
          case atStart => exact ⟨0, rfl, by omega, hB6⟩
          case round =>
            clear hB6
            obtain ⟨k3, rfl, hk3, hB⟩ := hrel
            by_cases hlt3 : k3 < n
            · obtain ⟨b, off, rfl, hcl⟩ := rowI_kept HR.out hB k3 (by rw [HN.out]; exact hlt3)
              obtain ⟨r, hr⟩ : ∃ r, zs.getD k3 0 = r := ⟨_, rfl⟩
              rw [hr] at hcl
              clear hr
              go_wp2_with (first | (go_at_call 8; refine (width_any _ _).mono ?_; rintro e w7 ⟨rfl, rfl⟩) | (go_at_call 9; refine (widthR_any _ _).mono ?_; rintro e w7 ⟨rfl, rfl⟩) | (go_at_call 10; refine (encP_any _ _).mono ?_; rintro e w8 ⟨rfl, hb8⟩) | (go_at_call 11; refine (encR_any _ _).mono ?_; rintro e w9 ⟨rfl, hb9⟩))
              go_roundw
              case rel => exact ⟨k3 + 1, by go_num, by omega, (hB.trans (hb8.mono hB.size)).trans (hb9.mono (Nat.le_trans hB.size hb8.size))⟩
              case measure => simp [intOf]; omega
            · go_wp2_with (first | (go_at_call 5; refine (wakes_any _).mono ?_; rintro e w7 ⟨rfl, hb7⟩))
              go_ret
              exact ⟨rfl, hB.trans (hb7.mono hB.size)⟩
end Go.Proofs.Ytaogmmhkpknkmaa
