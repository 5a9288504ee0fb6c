/- Stage 16: the law SchemeFound; a list of texts that came in. -/
import Derived.Test.YtdcmkiggnmajgaaYf
import Derived.Test.YtdcmkiggnmajgaaYg
import Derived.Test.YtdcmkiggnmajgaaYh
import Derived.Test.YtdcmkiggnmajgaaYi
import Derived.Test.YtdcmkiggnmajgaaYj
import Derived.Test.YtdcmkiggnmajgaaSo
import Derived.SliceStrings
namespace Go.Proofs.Ytdcmkiggnmajgaa
set_option linter.unusedVariables false
set_option linter.unusedSimpArgs false
open Go Go.ChangeShapes Go.WideShapes Go.ChangeAt Go.RowKit
set_option maxRecDepth 100000

theorem strs_at {w : World} {a : Addr} {zs : List ByteArray} (h : ∀ i, i < zs.length → w.cell? (a.add i) = some (.string (zs.getD i ByteArray.empty))) (hp : 0 < zs.length) :
    ∃ b off, a = ⟨b, off, none⟩ ∧ ∀ j, j < zs.length → w.cell? ⟨b, off + j, none⟩ = some (.string (zs.getD j ByteArray.empty)) := by
  obtain ⟨b, off, spot⟩ := a
  have hspot : spot = none := by simpa [Addr.add] using World.cell?_spot (h 0 hp)
  subst hspot
  exact ⟨b, off, rfl, fun j hj => by rw [← Go.WideShapes.add_plain]; exact h j hj⟩

/-- A list of texts that came in. -/
structure KeysIn (W : World) (o : Option Addr) (c : Nat) (ks : List ByteArray) : Prop where
  row : RowAt W encT 1 o ks
  form : NForm o ks.length c
  len : ks.length ≤ 9223372036854775807
  each : ∀ t ∈ ks, t.size ≤ maxLen
theorem open_keys {H : Type} {enc : TypeId × Value → H} {W : World} {ao : Option Addr} {len cap : Nat} {d : DataW H} {ps : List MemPlace} (h : DataW.Trod enc Try.prog W 0 (fun _ => true) true 56 (.slice ao len cap) d ps) :
    ∃ ks : List ByteArray, ks.length = len ∧ KeysIn W ao cap ks := by
  obtain ⟨fuel, hf⟩ := h
  rcases open_strings Try.underlying56 Try.underlying9 (by kernel_rfl) hf with ⟨hcs, hx⟩ | ⟨a, len', cap', zs, hcs, _, hl, hm, hz, hx, hcell, hwz⟩
  · simp [Value.cells] at hcs
    obtain ⟨rfl, rfl, rfl⟩ := hcs
    exact ⟨[], rfl, fun i x hi => by simp at hi, .inl ⟨rfl, rfl, rfl⟩, by simp, fun t ht => by simp at ht⟩
  · simp [Value.cells] at hcs
    obtain ⟨rfl, rfl, rfl⟩ := hcs
    simp at hz
    have hm' : cap ≤ 9223372036854775807 := by unfold maxLen at hm; omega
    refine ⟨zs.take len, by simp; omega, ⟨fun i x hi => ?_, ?_, by simp; omega, fun t ht => hwz t (List.mem_of_mem_take ht)⟩⟩
    · have hi' : i < len := by have := (List.getElem?_eq_some_iff.1 hi).1; simp at this; omega
      obtain ⟨b, off, rfl, hc⟩ := strs_at hcell (by omega)
      refine ⟨b, off, rfl, fun j hj => ?_⟩
      obtain rfl : j = 0 := by omega
      have h1 := hc i (by omega)
      rw [List.getElem?_take, if_pos hi'] at hi
      rw [List.getD_eq_getElem?_getD, hi] at h1
      simpa [encT] using h1
    · refine .inr ⟨_, rfl, by simp; omega, hm'⟩
namespace Pr
theorem found_law (s : Sc) (ks : List ByteArray) (ol os o : Option Addr) (cl cs c : Nat) (hn : s.L.length ≤ 9223372036854775807) (hm : s.S.length ≤ 9223372036854775807) (w : World) (hr : RowAt w encR 2 ol s.L) (ht : RowAt w encI 1 os s.S) (hk : KeysIn w o c ks) :
    Calls Try.prog 11 #[.agg #[.slice ol s.L.length cl, .slice os s.S.length cs], .slice o ks.length c] w fun e w' => e = .returned (.bool true) ∧ Below w.heap.size w w' := by
  obtain ⟨hkr, hkf, hk1, hz⟩ := hk
  cases hmay : mayB s
  · exact foundB1 s ks ol os o cl cs c hn hm hk1 hz hkf (.inl hmay) w hr ht hkr
  · by_cases hlen : ks.length = s.L.length
    · by_cases hne : fltT s.L ks s.L.length = []
      · by_cases hok : 512 < ks.length ∨ 25 < cntF (keyL ks) ks.length
        · exact foundB3a s ks ol os o cl cs c hn hm hk1 hz hkf hmay hlen hne hok w hr ht hkr
        · rcases Nat.lt_or_ge 201 ks.length with hs | hs
          · exact foundB3c s ks ol os o cl cs c hn hm hk1 hz hkf hmay hlen hne hok hs w hr ht hkr
          · exact foundB3b s ks ol os o cl cs c hn hm hk1 hz hkf hmay hlen hne hok hs w hr ht hkr
      · exact foundB2 s ks ol os o cl cs c hn hm hk1 hz hkf hmay hlen hne w hr ht hkr
    · exact foundB1 s ks ol os o cl cs c hn hm hk1 hz hkf (.inr hlen) w hr ht hkr
end Pr
end Go.Proofs.Ytdcmkiggnmajgaa
