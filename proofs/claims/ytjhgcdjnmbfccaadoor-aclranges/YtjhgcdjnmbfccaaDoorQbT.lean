/- Plain facts for AclRanges: the texts that the law makes, read as ranges; how many first bits are the same. And Meets at these texts. -/
import Derived.Test.YtjhgcdjnmbfccaaDoorQbO
import Derived.Test.YtjhgcdjnmbfccaaDoorQbR
namespace Go.Proofs.YtjhgcdjnmbfccaaDoor
open Go.RowKit Go.Shelf
set_option maxRecDepth 8000

section
variable {x0 x1 x2 x3 y0 y1 y2 y3 : Nat} (hx0 : x0 ≤ 255) (hx1 : x1 ≤ 255) (hx2 : x2 ≤ 255) (hx3 : x3 ≤ 255) (hy0 : y0 ≤ 255) (hy1 : y1 ≤ 255) (hy2 : y2 ≤ 255) (hy3 : y3 ≤ 255)
include hx0 hx1 hx2 hx3

theorem rng_slash (t : Bs) : rngD (txtA x0 x1 x2 x3 ++ 47 :: t) = match numF 32 t with | some n => some ([x0, x1, x2, x3], n) | none => none := by
  obtain ⟨h1, h2⟩ := txtA_ad hx0 hx1 hx2 hx3
  obtain ⟨e1, e2⟩ := hdC_app (b := t) h2
  unfold rngD
  rw [if_pos (by simp), e1, e2, h1]
  cases numF 32 t <;> rfl

theorem rng_plain : rngD (txtA x0 x1 x2 x3) = some ([x0, x1, x2, x3], 32) := by
  obtain ⟨h1, h2⟩ := txtA_ad hx0 hx1 hx2 hx3
  unfold rngD
  rw [if_neg h2, h1]
  rfl

theorem rng_num {n : Nat} (hn : n ≤ 32) : rngD (txtA x0 x1 x2 x3 ++ 47 :: dec3 n) = some ([x0, x1, x2, x3], n) := by
  rw [rng_slash hx0 hx1 hx2 hx3, dec3_num (by omega) hn]

theorem rng_33 : rngD (txtA x0 x1 x2 x3 ++ [47, 51, 51]) = none := by
  have := rng_slash hx0 hx1 hx2 hx3 (dec3 33)
  rw [dec3_over (by omega) (by omega)] at this
  exact this

omit hx0 hx1 hx2 hx3 in
theorem txt_len : (txtA x0 x1 x2 x3).length ≤ 15 := by
  have h0 := dec3_len x0
  have h1 := dec3_len x1
  have h2 := dec3_len x2
  have h3 := dec3_len x3
  unfold txtA
  simp only [List.length_append, List.length_cons]
  omega

/-- Just the first s bits are the same: so up to n bits are the same just if n is at most s. -/
theorem same_key (hy0 : y0 ≤ 255) (hy1 : y1 ≤ 255) (hy2 : y2 ≤ 255) (hy3 : y3 ≤ 255) {s : Nat} (hs : s ≤ 32) (h : ∀ i, i < s → bitN [x0, x1, x2, x3] i = bitN [y0, y1, y2, y3] i) (hx : s = 32 ∨ bitN [x0, x1, x2, x3] s ≠ bitN [y0, y1, y2, y3] s) (n : Nat) (hn : n ≤ 32) :
    metA n [x0, x1, x2, x3] [y0, y1, y2, y3] = decide (n ≤ s) := by
  have hk := metA_bits (xs := [x0, x1, x2, x3]) (ys := [y0, y1, y2, y3]) ⟨_, _, _, _, rfl, hx0, hx1, hx2, hx3⟩ ⟨_, _, _, _, rfl, hy0, hy1, hy2, hy3⟩ hn
  by_cases hns : n ≤ s
  · rw [decide_eq_true hns]
    exact hk.2 (fun i hi => h i (by omega))
  · rw [decide_eq_false hns]
    cases hm : metA n [x0, x1, x2, x3] [y0, y1, y2, y3] with
    | false => rfl
    | true =>
      rcases hx with rfl | hx
      · omega
      · exact absurd (hk.1 hm s (by omega)) hx

omit hx0 hx1 hx2 hx3 in
/-- Meets at a range of the law. -/
theorem meets_at (hy0 : y0 ≤ 255) (hy1 : y1 ≤ 255) (hy2 : y2 ≤ 255) (hy3 : y3 ≤ 255) {en wn : ByteArray} {n : Nat} (he : rngD en.data.toList = some ([x0, x1, x2, x3], n)) (hs : en.size ≤ 4294967296) (hw : wn.data.toList = txtA y0 y1 y2 y3) (V : World) :
    Calls Tryd.prog 5 #[.agg #[.string ipB, .string en], .agg #[.string ipB, .string wn]] V fun e w' => e = .returned (.bool (metA n [x0, x1, x2, x3] [y0, y1, y2, y3])) ∧ Below V.heap.size V w' := by
  have ha := (txtA_ad hy0 hy1 hy2 hy3).1
  have hb : wn.size ≤ 4294967296 := by
    have h1 : wn.size = wn.data.toList.length := by cases wn; rfl
    have h2 := txt_len (x0 := y0) (x1 := y1) (x2 := y2) (x3 := y3)
    rw [h1, hw]
    omega
  have hm := meets_ip_yes en wn hs hb (by rw [he]; rfl) (by rw [hw, ha]; rfl) V
  have e : witD en.data.toList wn.data.toList = metA n [x0, x1, x2, x3] [y0, y1, y2, y3] := by
    unfold witD
    rw [he, hw, ha]
  rw [← e]
  exact hm
end

end Go.Proofs.YtjhgcdjnmbfccaaDoor
