/- Joined frames in which one byte is turned: what is known of them in memory. No Go function is walked here. -/
import Derived.Test.YtabkjcgcnimoaaaTornH
import Derived.Test.YtabkjcgcnimoaaaFrP2
import Derived.Deep.RegionHeld
namespace Go.Proofs.Ytabkjcgcnimoaaa
open Go.ChangeShapes Go.WideShapes Go.ChangeAt Go.RowKit
set_option maxRecDepth 8000
namespace frameTurned
open frameTorn

theorem xor_turns (x b : Int) (h0 : 0 ≤ x) (h1 : x ≤ 255) (h2 : 0 < b) (h3 : b ≤ 255) : bits .xor .u8 x b ≠ x := by
  rw [u8_xor x b (by omega) (by omega) (by omega) (by omega)]
  intro e
  have e1 : x.toNat ^^^ b.toNat = x.toNat := by omega
  have e2 := congrArg (x.toNat ^^^ ·) e1
  simp only [← Nat.xor_assoc, Nat.xor_self, Nat.zero_xor] at e2
  omega

/-- What is known of bytes F, of lists l and of where they begin, in a world V and later. -/
structure HaveF (w : World) (l : List Pcd) (F : List Int) (g cva gl cl ga ca : Nat) (V : World) : Prop where
  below : Below w.heap.size w V
  good : ∀ p ∈ l, Good w p ∧ isSz p.ys.length = true
  all : Owns V 0 (.slice (some ⟨g, 0, none⟩) F.length cva) F
  lst : ∀ i (h : i < l.length), V.cell? ⟨gl, i, none⟩ = some (.slice l[i].ao l[i].ys.length l[i].cap)
  beg : ∀ i, i < l.length → V.cell? ⟨ga, i, none⟩ = some (.int .i64 (pos ((ysOf l).take i)))
  ng : w.heap.size ≤ g
  nl : gl ≠ g
  na : ga ≠ g

theorem HaveF.later {w : World} {l : List Pcd} {F : List Int} {g cva gl cl ga ca : Nat} {V V' : World} (h : HaveF w l F g cva gl cl ga ca V) (hb : Below V.heap.size V V') : HaveF w l F g cva gl cl ga ca V' :=
  ⟨h.below.trans (hb.mono h.below.size), h.good, row_kept h.all (kept_below hb (fun _ => False)) (fun _ _ h => h), fun i hi => cell_later (h.lst i hi) hb (Nat.le_refl _), fun i hi => cell_later (h.beg i hi) hb (Nat.le_refl _), h.ng, h.nl, h.na⟩

theorem HaveF.turn {w : World} {l : List Pcd} {F : List Int} {g cva gl cl ga ca : Nat} {V : World} (h : HaveF w l F g cva gl cl ga ca V) (k : Nat) (y : Int) : HaveF w l (F.set k y) g cva gl cl ga ca (V.setCell ⟨g, k, none⟩ (.int .u8 y)) := by
  have hk : Kept V (V.setCell ⟨g, k, none⟩ (.int .u8 y)) (· = g) := (Kept.refl V (· = g)).setCell ⟨g, k, none⟩ _ (fun _ => rfl)
  refine ⟨h.below.setCell (p := ⟨g, k, none⟩) h.ng _, h.good, ?_, fun i hi => hk.cell (h.lst i hi) h.nl, fun i hi => hk.cell (h.beg i hi) h.na, h.ng, h.nl, h.na⟩
  have := (owns_set h.all k y).1
  exact this

theorem haveF_join {w w1 V : World} {l : List Pcd} {va vl vat : Value} (hw : w.heap.size ≤ w1.heap.size) (hb : Below w.heap.size w V) (hg : ∀ p ∈ l, Good w p ∧ isSz p.ys.length = true) (h : Join w1.heap.size l va vl vat V) (hl : l ≠ []) :
    ∃ g cva gl cl ga ca, va = .slice (some ⟨g, 0, none⟩) (framesL (ysOf l)).length cva ∧ vl = .slice (some ⟨gl, 0, none⟩) l.length cl ∧ vat = .slice (some ⟨ga, 0, none⟩) l.length ca ∧ HaveF w l (framesL (ysOf l)) g cva gl cl ga ca V := by
  obtain ⟨g, cva, gl, cl, ga, ca, rfl, rfl, rfl, hH⟩ := have_join hb hg h hl
  refine ⟨g, cva, gl, cl, ga, ca, rfl, rfl, rfl, hH.below, hH.good, hH.all, hH.lst, hH.beg, ?_, ?_, ?_⟩
  · have := (row_at (k := g) h.all rfl).2.1
    omega
  · intro e
    exact rows_apart h.lst h.all (by decide) gl rfl (by rw [e]; rfl)
  · intro e
    exact rows_apart h.beg h.all (by decide) ga rfl (by rw [e]; rfl)

/-- The frame at which a byte is turned, cut out. -/
theorem cut_turned : ∀ (l : List (List Int)) (k p : Nat) (y : Int) (hk : k < l.length), pos (l.take k) ≤ p → p < pos (l.take (k + 1)) → (((framesL l).set p y).drop (pos (l.take k))).take (l[k].length + 9) = (frameL l[k]).set (p - pos (l.take k)) y
  | [], k, p, y, hk, _, _ => by simp at hk
  | b :: l, 0, p, y, _, _, h2 => by
    simp only [List.take_succ_cons, List.take_zero, pos, Nat.add_zero] at h2
    simp only [List.take_zero, pos, List.drop_zero, Nat.sub_zero, List.getElem_cons_zero, framesL]
    rw [List.set_append_left _ _ (by rw [frameL_len]; exact h2), takeF (by rw [List.length_set, frameL_len])]
  | b :: l, k + 1, p, y, hk, h1, h2 => by
    simp only [List.take_succ_cons, pos] at h1 h2
    have ih := cut_turned l k (p - (b.length + 9)) y (by simpa using hk) (by omega) (by omega)
    simp only [List.take_succ_cons, pos, List.getElem_cons_succ, framesL]
    rw [List.set_append_right _ _ (by rw [frameL_len]; omega), frameL_len, ← List.drop_drop, dropF (frameL_len b), ih]
    congr 1
    omega

theorem getD_frames : ∀ (l : List (List Int)) (k p : Nat) (hk : k < l.length), pos (l.take k) ≤ p → p < pos (l.take (k + 1)) → (framesL l).getD p 0 = (frameL l[k]).getD (p - pos (l.take k)) 0
  | [], k, p, hk, _, _ => by simp at hk
  | b :: l, 0, p, _, _, h2 => by
    simp only [List.take_succ_cons, List.take_zero, pos, Nat.add_zero] at h2
    simp only [List.take_zero, pos, Nat.sub_zero, List.getElem_cons_zero, framesL, List.getD_eq_getElem?_getD]
    rw [List.getElem?_append_left (by rw [frameL_len]; exact h2)]
  | b :: l, k + 1, p, hk, h1, h2 => by
    simp only [List.take_succ_cons, pos] at h1 h2
    have ih := getD_frames l k (p - (b.length + 9)) (by simpa using hk) (by omega) (by omega)
    simp only [List.take_succ_cons, pos, List.getElem_cons_succ, framesL, List.getD_eq_getElem?_getD] at ih ⊢
    rw [List.getElem?_append_right (by rw [frameL_len]; omega), frameL_len, ih]
    congr 2
    omega

/-- The frame at which a byte is turned is none. -/
theorem cut_none (l : List (List Int)) (k p : Nat) (y : Int) (hk : k < l.length) (hs : ∀ b ∈ l, isSz b.length = true ∧ Byts b) (h1 : pos (l.take k) + 4 ≤ p) (h2 : p < pos (l.take (k + 1))) (h0 : 0 ≤ y) (h3 : y ≤ 255) (hne : y ≠ (framesL l).getD p 0) :
    bodyLen ((((framesL l).set p y).drop (pos (l.take k))).take (l[k].length + 9)) = 0 := by
  rw [cut_turned l k p y hk (by omega) h2]
  have hb := hs l[k] (List.getElem_mem hk)
  have e := pos_next hk
  have := bodyLen_turn l[k] [] (p - pos (l.take k)) y hb.1 hb.2 (by omega) (by omega) h0 h3 (by rw [List.append_nil, ← getD_frames l k p hk (by omega) h2]; exact hne)
  rwa [List.append_nil] at this

/-- A part of a list, from one place to another. -/
theorem run_part (g N cva q n : Nat) (h : q + (n + 9) ≤ N) (h1 : N ≤ cva) (h2 : cva ≤ 9223372036854775807) (w : World) : (Instr.slice 25 (.slice (some ⟨g, 0, none⟩) N cva) (some (.int .i64 q)) (some (.int .i64 (IntKind.i64.wrap (IntKind.i64.wrap ((q : Int) + (n : Int)) + 9)))) none).run Try.prog w = .ok (.slice (some ⟨g, q, none⟩) (n + 9) (cva - q)) w := by
  have e0 : IntKind.i64.wrap ((q : Int) + (n : Int)) = (q : Int) + (n : Int) := by
    simp [IntKind.wrap, IntKind.bits, IntKind.signed]
    omega
  have e : IntKind.i64.wrap ((q : Int) + (n : Int) + 9) = (q : Int) + (n : Int) + 9 := by
    simp [IntKind.wrap, IntKind.bits, IntKind.signed]
    omega
  have ht : Try.prog.underlying 25 = some (.slice (Try.prog.elem 25)) := by kernel_rfl
  have hs : ∀ w, (sizeOf (Try.prog.elem 25)).run Try.prog w = .ok 1 w := fun w => by kernel_rfl
  rw [e0, e, run_slice_lh w 25 (some ⟨g, 0, none⟩) N cva ht .i64 .i64 q ((q : Int) + (n : Int) + 9) (by omega) (by omega) (by omega), hs]
  have e1 : ((q : Int) + (n : Int) + 9).toNat = q + n + 9 := by omega
  have e2 : (⟨g, 0, none⟩ : Addr).add q = ⟨g, q, none⟩ := by rw [addr_add]; simp
  have e3 : ¬ cva = q := by omega
  simp only [Result.andThen, sliced, Int.toNat_natCast, e1, Nat.mul_one, if_neg e3, Option.map_some, e2]
  congr 2
  omega

end frameTurned
end Go.Proofs.Ytabkjcgcnimoaaa
