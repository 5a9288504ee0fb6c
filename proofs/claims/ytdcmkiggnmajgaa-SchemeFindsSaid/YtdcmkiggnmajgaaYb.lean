/- Stage 16: the keys' map: what it holds behind so many keys. -/
import Derived.Test.YtdcmkiggnmajgaaYa
import Derived.Test.YtdcmkiggnmajgaaVt
import Derived.Maps.OwnSet
import Derived.Maps.OwnOps
import Derived.StringKeys
namespace Go.Proofs.Ytdcmkiggnmajgaa
set_option linter.unusedVariables false
set_option linter.unusedSimpArgs false
open Go Go.RowKit Go.Shelf Go.WideShapes Go.Maps
set_option maxRecDepth 100000

theorem lawS : Keyed Try.prog 9 := string_keyed Try.underlying9
theorem zeroI (w : World) : (zeroValue 3).run Try.prog w = .ok (.int .i64 0) w := by kernel_rfl
/-- A key as it is read. -/
def kLit (s : ByteArray) : Lit := .string s.data.toList
theorem kLit_of {s : ByteArray} (h : s.size ≤ maxLen) : keyOf Try.prog 9 (.string s) = some (kLit s) := Go.WideMaps.keyOf_string_mk Try.underlying9 h
theorem kLit_ne {s t : ByteArray} (h : s ≠ t) : kLit s ≠ kLit t := fun e => h (by unfold kLit at e; injection e with e; exact bytes_inj e)
theorem kLit_key (s : ByteArray) : WideAt.IsKeyLit (kLit s) := trivial
/-- The map behind k keys. -/
structure MapK (ks : List ByteArray) (k : Nat) (D : DataW Unit) : Prop where
  size : Maps.size D = cntF (keyL ks) k
  yes : ∀ i s, i < k → ks[i]? = some s → Maps.has D (kLit s) = true ∧ D.atKey (kLit s) (.lit (.int .i64 0)) = .lit (.int .i64 (cntF (keyL ks) (kIx ks s) : Nat))
  no : ∀ s, k ≤ kIx ks s → Maps.has D (kLit s) = false
theorem MapK.start (ks : List ByteArray) : MapK ks 0 (.map []) := ⟨rfl, fun i s h => by omega, fun s _ => rfl⟩
theorem MapK.old {ks : List ByteArray} {k : Nat} {D : DataW Unit} (h : MapK ks k D) {s : ByteArray} (hs : ks[k]? = some s) (hk : kIx ks s < k) : Maps.has D (kLit s) = true ∧ MapK ks (k + 1) D := by
  have h1 := h.yes (kIx ks s) s hk (kIx_le hs).2
  refine ⟨h1.1, ⟨?_, fun i t hi ht => ?_, fun t ht => h.no t (by omega)⟩⟩
  · rw [h.size, cntF_not (keyL_at hs) (.inr (by simp only [keyL_fidx hs]; omega))]
  · rcases (by omega : i < k ∨ i = k) with h2 | rfl
    · exact h.yes i t h2 ht
    · rw [hs] at ht
      cases ht
      exact h1
theorem MapK.new {ks : List ByteArray} {k : Nat} {D : DataW Unit} (h : MapK ks k D) (hD : Tidy D) {s : ByteArray} (hs : ks[k]? = some s) (hk : kIx ks s = k) : Maps.has D (kLit s) = false ∧ MapK ks (k + 1) (D.put (kLit s) (.lit (.int .i64 (Maps.size D)))) := by
  have h0 := h.no s (by omega)
  have hf := cntF_first (keyL_at hs) (by simp) (by have := keyL_fidx hs; rw [hk] at this; simp only [hk]; exact this)
  refine ⟨h0, ⟨?_, fun i t hi ht => ?_, fun t ht => ?_⟩⟩
  · rw [size_put hD, h0, h.size, hf]; simp
  · by_cases e : t = s
    · subst e
      rw [has_put_same hD.isMap (kLit_key _), atKey_put_same hD.isMap (kLit_key _), h.size, hk]
      exact ⟨rfl, rfl⟩
    · rw [has_put_other (kLit_ne e), atKey_put_other (kLit_ne e)]
      rcases (by omega : i < k ∨ i = k) with h2 | rfl
      · exact h.yes i t h2 ht
      · rw [hs] at ht
        cases ht
        exact absurd rfl e
  · have e : t ≠ s := fun e => by subst e; omega
    rw [has_put_other (kLit_ne e)]
    exact h.no t (by omega)
/-- What is found. -/
def fndL (ks : List ByteArray) : List Rh := canL (keyL ks)
theorem fndL_len (ks : List ByteArray) : (fndL ks).length = ks.length := by rw [fndL, canL_len, keyL_len]
theorem fndL_next {ks : List ByteArray} {k : Nat} {s : ByteArray} (hs : ks[k]? = some s) : (fndL ks).take (k + 1) = (fndL ks).take k ++ [⟨(cntF (keyL ks) (kIx ks s) : Nat), 0⟩] := by
  have h := canL_get (keyL_at hs)
  rw [keyL_can hs] at h
  exact take_nextL h
def fndS (ks : List ByteArray) : Sc := ⟨fndL ks, if ks = [] then [] else [(ks.length : Int)]⟩
/-- What Found answers. -/
def fndR (ks : List ByteArray) : Sc × Int := if 512 < ks.length then (⟨[], []⟩, 3) else if 25 < cntF (keyL ks) ks.length then (⟨[], []⟩, 5) else (fndS ks, 0)
end Go.Proofs.Ytdcmkiggnmajgaa
