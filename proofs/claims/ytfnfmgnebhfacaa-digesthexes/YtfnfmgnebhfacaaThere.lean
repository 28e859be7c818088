/-
  Hex and Parse are each other's way back: plain.
-/
import Derived.Test.YtfnfmgnebhfacaaDigits
import Derived.Laws.StructEq
namespace Go.Proofs.Ytfnfmgnebhfacaa

theorem strOf_size (ns : List Int) : (strOf ns).size = ns.length := by
  have := congrArg List.length (strOf_list ns)
  simpa using this
theorem strOf_byt (ns : List Int) (j : Nat) (n : Int) (h : ns[j]? = some n) (h0 : 0 ≤ n) (h1 : n ≤ 255) : byt (strOf ns) j = n := by
  unfold byt
  rw [strOf_list, List.getElem?_map, h]
  simp only [Option.map_some, Option.getD_some]
  have e : (UInt8.ofNat n.toNat).toNat = n.toNat := by simp; omega
  rw [e]
  omega
theorem hd_bd (z : Nat → Int) (j : Nat) (hb : 0 ≤ z (j / 2) ∧ z (j / 2) ≤ 255) : 48 ≤ hd z j ∧ hd z j ≤ 102 := by
  unfold hd
  split
  · exact hx_bd _ (by omega) (by omega)
  · exact hx_bd _ (by omega) (by omega)
theorem byt_hex (z : Nat → Int) (hb : ∀ i, i < 32 → 0 ≤ z i ∧ z i ≤ 255) (j : Nat) (h : j < 64) : byt (strOf (hexNs z)) j = hd z j := by
  have := hd_bd z j (hb _ (by omega))
  exact strOf_byt _ j _ (hexNs_get z j h) (by omega) (by omega)
theorem okS_hex (z : Nat → Int) (hb : ∀ i, i < 32 → 0 ≤ z i ∧ z i ≤ 255) : okS (strOf (hexNs z)) := by
  refine ⟨by rw [strOf_size, hexNs_len], fun j hj => ?_⟩
  rw [byt_hex z hb j hj]
  have := hb (j / 2) (by omega)
  unfold hd
  split
  · exact dq_hx _ (by omega) (by omega)
  · exact dq_hx _ (by omega) (by omega)
theorem acc_hex (z : Nat → Int) (hb : ∀ i, i < 32 → 0 ≤ z i ∧ z i ≤ 255) (i : Nat) (h : i < 32) : acc (strOf (hexNs z)) 64 i = z i := by
  have := hb i h
  unfold acc
  rw [if_pos (by omega), byt_hex z hb _ (by omega), byt_hex z hb _ (by omega), hd_even, hd_odd, dv_hx _ (by omega) (by omega), dv_hx _ (by omega) (by omega)]
  omega
theorem parsed_hex {z : Nat → Int} (hb : ∀ i, i < 32 → 0 ≤ z i ∧ z i ≤ 255) {cs : List Value} {x : Int} (h : parsed (strOf (hexNs z)) cs x) : cs = arrOf z ∧ x = 0 := by
  rcases h with ⟨_, b, c⟩ | ⟨a, _, _⟩
  · exact ⟨b.trans (arrOf_congr _ _ fun i hi => acc_hex z hb i hi), c⟩
  · exact absurd (okS_hex z hb) a

theorem hd_acc (s : ByteArray) (hs : okS s) (j : Nat) (h : j < 64) : hd (acc s 64) j = byt s j := by
  have b1 := dv_bd (byt s (2 * (j / 2)))
  have b2 := dv_bd (byt s (2 * (j / 2) + 1))
  have e : acc s 64 (j / 2) = 16 * dv (byt s (2 * (j / 2))) + dv (byt s (2 * (j / 2) + 1)) := by unfold acc; rw [if_pos (by omega)]
  unfold hd
  by_cases h2 : j % 2 = 0
  · rw [if_pos h2, e, show (16 * dv (byt s (2 * (j / 2))) + dv (byt s (2 * (j / 2) + 1))) / 16 = dv (byt s (2 * (j / 2))) from by omega, show 2 * (j / 2) = j from by omega]
    exact hx_dv _ (hs.2 j h)
  · rw [if_neg h2, e, show (16 * dv (byt s (2 * (j / 2))) + dv (byt s (2 * (j / 2) + 1))) % 16 = dv (byt s (2 * (j / 2) + 1)) from by omega, show 2 * (j / 2) + 1 = j from by omega]
    exact hx_dv _ (hs.2 j h)
theorem hex_acc (s : ByteArray) (hs : okS s) : (strOf (hexNs (acc s 64))).toList = s.toList := by
  rw [ByteArray.toList_eq, ByteArray.toList_eq, strOf_list]
  apply List.ext_getElem?
  intro j
  by_cases h : j < 64
  · have hj : j < s.data.toList.length := by have := hs.1; simpa using (by omega : j < s.size)
    rw [List.getElem?_map, hexNs_get _ _ h, hd_acc s hs j h, List.getElem?_eq_getElem hj]
    simp only [Option.map_some, Option.some.injEq]
    unfold byt
    rw [List.getElem?_eq_getElem hj]
    simp
  · have h1 : s.data.toList.length = 64 := by simpa using hs.1
    rw [List.getElem?_eq_none (by simp [hexNs_len]; omega), List.getElem?_eq_none (by omega)]
end Go.Proofs.Ytfnfmgnebhfacaa
