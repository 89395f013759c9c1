/- The document's disk: Cut. -/
import Derived.Test.YtbdokdhconhifaaGreatDoorRdIJ
import Derived.Test.YtbdokdhconhifaaGreatDoorCopyLJ
import Derived.Deep.RegionWith
namespace Go.Proofs.YtbdokdhconhifaaGreatDoor
open Go.RowKit Go.Shelf
set_option maxRecDepth 8000

def RD.errC (R : RD) (n : ByteArray) (k : Int) : Int := if R.errO n = 0 then (if 0 ≤ k ∧ k ≤ ((R.files[pl R.files n]?.map (·.bytes.length)).getD 0 : Nat) then 0 else 1) else R.errO n

/-- A file's durable length is set. -/
theorem IsRd.setD {w : World} {p g n c : Nat} {vs : List Value} {R : RD} (h : IsRd w p (.slice (some ⟨g, 0, none⟩) n c) vs R) (i : Nat) (hi : i < R.files.length) (d : Int) : RdTo w p (.slice (some ⟨g, 0, none⟩) n c) vs (w.setCell ⟨g, i * 3 + 2, none⟩ (.int .i64 d)) { R with files := R.files.set i ⟨R.files[i].name, R.files[i].bytes, d⟩ } (.slice (some ⟨g, 0, none⟩) n c) vs := by
  obtain ⟨hgp, hne⟩ := rfoot_ne h.nd
  have hk : Kept w (w.setCell ⟨g, i * 3 + 2, none⟩ (.int .i64 d)) (fun k => k = g) := Kept.setCell (Kept.refl _ (fun k => k = g)) ⟨g, i * 3 + 2, none⟩ _ (fun _ => rfl)
  exact ⟨⟨hk.heap h.row (fun e => hgp e.symm), h.img.setDur i hi _ (fun u hu k e => (hne u hu k e).1), h.nd⟩, hk.mono (fun k _ e => by rw [e]; exact mem_rfoot_fv rfl), fun k hk => .inl hk⟩

theorem RdTo.after {w w1 w2 : World} {p : Nat} {fv fv2 : Value} {vs vs2 : List Value} {R2 : RD} (hb : Below w.heap.size w w1) (g : RdTo w1 p fv vs w2 R2 fv2 vs2) : RdTo w p fv vs w2 R2 fv2 vs2 :=
  ⟨g.is, (Below.kept hb).trans' g.kept (fun k hk e => by omega) (fun k _ e => e), fun k hk => by
    rcases g.foot k hk with e | e
    · exact .inl e
    · exact .inr (Nat.le_trans hb.size e)⟩

theorem RdTo.then {w w1 w2 : World} {p : Nat} {fv fv1 : Value} {vs vs1 : List Value} {R1 : RD} (h : RdTo w p fv vs w1 R1 fv1 vs1) (hb : Below w1.heap.size w1 w2) : RdTo w p fv vs w2 R1 fv1 vs1 :=
  h.trans ⟨h.is.later hb, (Below.kept hb).mono (fun k hk e => by omega), fun k hk => .inl hk⟩

theorem own_front {w : World} {B : Nat} {x : Option Addr} {L y : Nat} {xs : List Int} (h : Owns w B (.slice x L y) xs) (K : Nat) (hK : K ≤ xs.length) : Owns w B (.slice x K y) (xs.take K) := by
  obtain ⟨h0, ⟨e, e0⟩ | ⟨g, cap, cur, e, h2, h3, h4, h5, h6, h7⟩⟩ := h
  · simp only [Value.slice.injEq] at e
    obtain ⟨rfl, rfl, rfl⟩ := e
    have hx : xs = [] := List.eq_nil_of_length_eq_zero e0
    subst hx
    have : K = 0 := by simpa using hK
    subst this
    exact ⟨by simp, .inl ⟨rfl, rfl⟩⟩
  · simp only [Value.slice.injEq] at e
    obtain ⟨rfl, rfl, rfl⟩ := e
    have hl : (xs.take K).length = K := by rw [List.length_take]; omega
    refine ⟨by simp, .inr ⟨g, y, cur, by rw [hl], h2, h3, by omega, h5, h6, ?_⟩⟩
    have h7' := congrArg (fun l => l.take (K * 1)) h7
    simp only [List.take_take, Nat.mul_one] at h7'
    rw [hl, Nat.mul_one, List.map_take, ← h7', Nat.min_eq_left hK]

/-- A copy of a file's first bytes. -/
theorem IsRd.copy {w : World} {p g n c : Nat} {vs : List Value} {R : RD} (h : IsRd w p (.slice (some ⟨g, 0, none⟩) n c) vs R) (hu : usedD R.files ≤ 1000000000) (i : Nat) (hi : i < R.files.length) {x : Option Addr} {L y : Nat} (hv : vs[i]? = some (.slice x L y)) (K : Nat) (hK : K ≤ R.files[i].bytes.length) (V : World) (hV : Below w.heap.size w V) :
    Calls Tryz.prog 28 #[.slice x K y] V fun e w' => ∃ x' y', e = .returned (.slice x' K y') ∧ Owns w' 0 (.slice x' K y') (R.files[i].bytes.take K) ∧ (∀ k, (Value.slice x' K y').ownBlock = some k → w.heap.size ≤ k) ∧ Below w.heap.size w w' ∧ IsRd w' p (.slice (some ⟨g, 0, none⟩) n c) vs R := by
  have ho := h.img.bys i _ _ hv (List.getElem?_eq_getElem hi)
  have ho2 := own_front ho K hK
  have hlt : ∀ k, (Value.slice x K y).ownBlock = some k → k < w.heap.size := fun k e => rows_ltK ho (k := k) (by cases x <;> exact e)
  have hs : Sees V (.slice x K y) (R.files[i].bytes.take K) := Sees.own (ho2.kept (Below.kept hV) (fun k e e' => by have := hlt k e; omega))
  have hl : (R.files[i].bytes.take K).length = K := by rw [List.length_take]; omega
  refine (copyBytes_any _ _ V hs (by have := len_used (List.getElem_mem hi); rw [hl]; omega)).mono ?_
  rintro e w' ⟨v', rfl, ho3, hb3⟩
  have hbb : Below w.heap.size w w' := hV.trans (hb3.mono hV.size)
  obtain ⟨x', y', e', _⟩ := own_shape (owns_mono ho3 (Nat.zero_le _))
  rw [hl] at e'
  subst e'
  exact ⟨x', y', rfl, owns_mono ho3 (Nat.zero_le _), fun k e => Nat.le_trans hV.size (ho3.lt k e).1, hbb, h.later hbb⟩

end Go.Proofs.YtbdokdhconhifaaGreatDoor