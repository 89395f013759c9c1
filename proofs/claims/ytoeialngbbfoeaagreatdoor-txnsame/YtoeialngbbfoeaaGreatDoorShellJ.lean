/- Lists that are written over where they lie, each part by one of its form: what a request in memory is then. No Go function is walked here. -/
import Derived.Test.YtoeialngbbfoeaaGreatDoorChCJ
import Derived.Test.YtoeialngbbfoeaaGreatDoorWfMJ
import Derived.Test.YtoeialngbbfoeaaGreatDoorLeafSumJ
import Derived.ProofKit
import Derived.OpenShut
import Derived.ShutString
import Derived.ChangeOld
namespace Go.Proofs.YtoeialngbbfoeaaGreatDoor
open Go.RowKit
set_option maxRecDepth 8000

/-- A value of the same form. -/
inductive FrmV : Value → Value → Prop where
  | same (u : Value) : FrmV u u
  | byte (x y : Int) (h0 : 0 ≤ y) (h1 : y ≤ 255) : FrmV (.int .u8 x) (.int .u8 y)
  | small (x y : Int) (h0 : -128 ≤ y) (h1 : y ≤ 127) : FrmV (.int .i8 x) (.int .i8 y)
  | text (s t : ByteArray) (h : t.size ≤ 140737488355328) : FrmV (.string s) (.string t)

/-- Cells hold values of the same form as before. -/
structure Turns (w w' : World) : Prop where
  cell : ∀ g c u, w.cell? ⟨g, c, none⟩ = some u → ∃ u', w'.cell? ⟨g, c, none⟩ = some u' ∧ FrmV u u'

theorem Turns.refl (w : World) : Turns w w := ⟨fun _ _ u h => ⟨u, h, .same u⟩⟩

theorem Turns.set {w wr : World} (h : Turns w wr) {g c : Nat} {u v : Value} (hc : w.cell? ⟨g, c, none⟩ = some u) (hf : FrmV u v) : Turns w (wr.setCell ⟨g, c, none⟩ v) := by
  refine ⟨fun g' c' u' h' => ?_⟩
  by_cases e : (⟨g, c, none⟩ : Addr) = ⟨g', c', none⟩
  · rw [← e] at h' ⊢
    rw [hc] at h'
    cases h'
    obtain ⟨u1, h1, _⟩ := h.cell g c u hc
    exact ⟨v, World.cell?_setCell_same _ _ _ h1, hf⟩
  · obtain ⟨u1, h1, h2⟩ := h.cell g' c' u' h'
    exact ⟨u1, by rw [World.cell?_setCell_other (h := e)]; exact h1, h2⟩

theorem frm_slice {a : Option Addr} {n c : Nat} {u : Value} (h : FrmV (.slice a n c) u) : u = .slice a n c := by cases h; rfl
theorem frm_bool {b : Bool} {u : Value} (h : FrmV (.bool b) u) : u = .bool b := by cases h; rfl
theorem frm_i32 {x : Int} {u : Value} (h : FrmV (.int .i32 x) u) : u = .int .i32 x := by cases h; rfl
theorem frm_i64 {x : Int} {u : Value} (h : FrmV (.int .i64 x) u) : u = .int .i64 x := by cases h; rfl
theorem frm_i8 {x : Int} {u : Value} (h : FrmV (.int .i8 x) u) (h0 : -128 ≤ x) (h1 : x ≤ 127) : ∃ y, u = .int .i8 y ∧ -128 ≤ y ∧ y ≤ 127 := by
  cases h with
  | same => exact ⟨x, rfl, h0, h1⟩
  | small _ y a b => exact ⟨y, rfl, a, b⟩
theorem frm_u8 {x : Int} {u : Value} (h : FrmV (.int .u8 x) u) (h0 : 0 ≤ x) (h1 : x ≤ 255) : ∃ y, u = .int .u8 y ∧ 0 ≤ y ∧ y ≤ 255 := by
  cases h with
  | same => exact ⟨x, rfl, h0, h1⟩
  | byte _ y a b => exact ⟨y, rfl, a, b⟩
theorem frm_str {s : ByteArray} {u : Value} (h : FrmV (.string s) u) (h0 : s.size ≤ 140737488355328) : ∃ t, u = .string t ∧ t.size ≤ 140737488355328 := by
  cases h with
  | same => exact ⟨s, rfl, h0⟩
  | text _ t a => exact ⟨t, rfl, a⟩

/-- Bytes. -/
theorem Sees.turns {w w' : World} (ht : Turns w w') {v : Value} {xs : List Int} (h : Sees w v xs) (hb : Byts xs) : ∃ ys : List Int, ys.length = xs.length ∧ Byts ys ∧ Sees w' v ys := by
  obtain ⟨ao, cap, rfl, h1, h2, h0, h3⟩ := h
  rcases h3 with rfl | ⟨b, off, rfl, h3⟩
  · exact ⟨[], rfl, hb, ao, cap, rfl, h1, h2, h0, .inl rfl⟩
  have step : ∀ i, ∃ y : Int, i < xs.length → w'.cell? ⟨b, off + i, none⟩ = some (.int .u8 y) ∧ 0 ≤ y ∧ y ≤ 255 := fun i => by
    by_cases hi : i < xs.length
    · obtain ⟨u', a1, a2⟩ := ht.cell _ _ _ (h3 i hi)
      have hx := hb (xs.getD i 0) (by rw [List.getD_eq_getElem?_getD, List.getElem?_eq_getElem hi]; exact List.getElem_mem hi)
      obtain ⟨y, rfl, b0, b1⟩ := frm_u8 a2 hx.1 hx.2
      exact ⟨y, fun _ => ⟨a1, b0, b1⟩⟩
    · exact ⟨0, fun h => absurd h hi⟩
  obtain ⟨f, hf⟩ := Classical.axiomOfChoice step
  refine ⟨(List.range xs.length).map f, by simp, fun y hy => ?_, some ⟨b, off, none⟩, cap, by simp, by simpa using h1, h2, fun e => by simp at e, .inr ⟨b, off, rfl, fun i hi => ?_⟩⟩
  · obtain ⟨i, hi, rfl⟩ := List.mem_map.1 hy
    exact (hf i (List.mem_range.1 hi)).2
  · have hi' : i < xs.length := by simpa using hi
    have e : ((List.range xs.length).map f).getD i 0 = f i := by simp [List.getD_eq_getElem?_getD, hi']
    rw [e]
    exact (hf i hi').1

/-- Elements of z cells. -/
theorem SeesR.turns {w w' : World} (ht : Turns w w') {v : Value} {z : Nat} {cs : List (List Value)} (h : SeesR w v z cs) : ∃ ds : List (List Value), ds.length = cs.length ∧ (∀ i (hi : i < cs.length) (hj : i < ds.length), ds[i].length = z ∧ ∀ j, j < z → FrmV (cs[i].getD j (.bool false)) (ds[i].getD j (.bool false))) ∧ SeesR w' v z ds := by
  obtain ⟨ao, cap, rfl, h1, h2, h0, h3⟩ := h
  rcases h3 with rfl | ⟨b, off, rfl, h3⟩
  · exact ⟨[], rfl, fun i hi => by simp at hi, ao, cap, rfl, h1, h2, h0, .inl rfl⟩
  have step : ∀ p : Nat × Nat, ∃ y : Value, ∀ (hi : p.1 < cs.length), p.2 < z → w'.cell? ⟨b, off + p.1 * z + p.2, none⟩ = some y ∧ FrmV (cs[p.1].getD p.2 (.bool false)) y := fun p => by
    by_cases hi : p.1 < cs.length ∧ p.2 < z
    · obtain ⟨u', a1, a2⟩ := ht.cell _ _ _ (h3 p.1 hi.1 p.2 hi.2)
      exact ⟨u', fun _ _ => ⟨a1, a2⟩⟩
    · exact ⟨.bool false, fun a b => absurd ⟨a, b⟩ hi⟩
  obtain ⟨f, hf⟩ := Classical.axiomOfChoice step
  have hat : ∀ i j, i < cs.length → j < z → (((List.range cs.length).map fun i => (List.range z).map fun j => f (i, j))[i]?.getD []).getD j (.bool false) = f (i, j) := fun i j hi hj => by
    simp [List.getD_eq_getElem?_getD, hi, hj]
  refine ⟨(List.range cs.length).map fun i => (List.range z).map fun j => f (i, j), by simp, fun i hi hj => ⟨by simp, fun j hz => ?_⟩, some ⟨b, off, none⟩, cap, by simp, by simpa using h1, h2, fun e => by simp at e, .inr ⟨b, off, rfl, fun i hi j hj => ?_⟩⟩
  · have e := hat i j hi hz
    rw [List.getElem?_eq_getElem hj, Option.getD_some] at e
    rw [e]
    exact (hf (i, j) hi hz).2
  · have hi' : i < cs.length := by simpa using hi
    have e := hat i j hi' hj
    rw [List.getElem?_eq_getElem hi, Option.getD_some] at e
    rw [e]
    exact (hf (i, j) hi' hj).1

theorem list2 {α : Type} {l : List α} (h : l.length = 2) : ∃ a b, l = [a, b] := by
  match l, h with
  | [a, b], _ => exact ⟨a, b, rfl⟩
theorem list3 {α : Type} {l : List α} (h : l.length = 3) : ∃ a b c, l = [a, b, c] := by
  match l, h with
  | [a, b, c], _ => exact ⟨a, b, c, rfl⟩
theorem list11 {α : Type} {l : List α} (h : l.length = 11) : ∃ a b c d e f g i j k m, l = [a, b, c, d, e, f, g, i, j, k, m] := by
  match l, h with
  | [a, b, c, d, e, f, g, i, j, k, m], _ => exact ⟨a, b, c, d, e, f, g, i, j, k, m, rfl⟩

/-- Entries. -/
theorem acl_turns {w w' : World} (ht : Turns w w') {v : Value} {l : List EnD} (h : SeesR w v 3 (l.map EnD.cells)) (hg : ∀ x ∈ l, -128 ≤ x.perms ∧ x.perms ≤ 127 ∧ x.id.scheme.size ≤ 140737488355328 ∧ x.id.name.size ≤ 140737488355328) :
    ∃ l' : List EnD, l'.length = l.length ∧ (∀ x ∈ l', -128 ≤ x.perms ∧ x.perms ≤ 127 ∧ x.id.scheme.size ≤ 140737488355328 ∧ x.id.name.size ≤ 140737488355328) ∧ SeesR w' v 3 (l'.map EnD.cells) := by
  obtain ⟨ds, hl, he, hs⟩ := h.turns ht
  rw [List.length_map] at hl
  have step : ∀ i, ∃ x : EnD, ∀ (hi : i < ds.length), ds[i] = x.cells ∧ -128 ≤ x.perms ∧ x.perms ≤ 127 ∧ x.id.scheme.size ≤ 140737488355328 ∧ x.id.name.size ≤ 140737488355328 := fun i => by
    by_cases hi : i < ds.length
    · obtain ⟨e1, e2⟩ := he i (by rw [List.length_map]; omega) hi
      obtain ⟨a, b, c, ec⟩ := list3 e1
      rw [ec] at e2
      simp only [List.getElem_map] at e2
      obtain ⟨g0, g1, g2, g3⟩ := hg _ (List.getElem_mem (show i < l.length by omega))
      obtain ⟨x, rfl, x0, x1⟩ := frm_i8 (e2 0 (by omega)) g0 g1
      obtain ⟨s, rfl, s0⟩ := frm_str (e2 1 (by omega)) g2
      obtain ⟨t, rfl, t0⟩ := frm_str (e2 2 (by omega)) g3
      exact ⟨⟨x, ⟨s, t⟩⟩, fun _ => ⟨ec, x0, x1, s0, t0⟩⟩
    · exact ⟨⟨0, ⟨⟨#[]⟩, ⟨#[]⟩⟩⟩, fun h => absurd h hi⟩
  obtain ⟨f, hf⟩ := Classical.axiomOfChoice step
  have e : ds = ((List.range ds.length).map f).map EnD.cells := by
    apply List.ext_getElem
    · simp
    · intro i h1 h2
      simp only [List.getElem_map, List.getElem_range]
      exact (hf i h1).1
  refine ⟨(List.range ds.length).map f, by simp [hl], fun x hx => ?_, by rw [← e]; exact hs⟩
  obtain ⟨i, hi, rfl⟩ := List.mem_map.1 hx
  exact (hf i (List.mem_range.1 hi)).2

/-- Ids. -/
theorem who_turns {w w' : World} (ht : Turns w w') {v : Value} {l : List IdD} (h : SeesR w v 2 (l.map IdD.cells)) (hg : ∀ x ∈ l, x.scheme.size ≤ 140737488355328 ∧ x.name.size ≤ 140737488355328) :
    ∃ l' : List IdD, l'.length = l.length ∧ (∀ x ∈ l', x.scheme.size ≤ 140737488355328 ∧ x.name.size ≤ 140737488355328) ∧ SeesR w' v 2 (l'.map IdD.cells) := by
  obtain ⟨ds, hl, he, hs⟩ := h.turns ht
  rw [List.length_map] at hl
  have step : ∀ i, ∃ x : IdD, ∀ (hi : i < ds.length), ds[i] = x.cells ∧ x.scheme.size ≤ 140737488355328 ∧ x.name.size ≤ 140737488355328 := fun i => by
    by_cases hi : i < ds.length
    · obtain ⟨e1, e2⟩ := he i (by rw [List.length_map]; omega) hi
      obtain ⟨a, b, ec⟩ := list2 e1
      rw [ec] at e2
      simp only [List.getElem_map] at e2
      obtain ⟨g2, g3⟩ := hg _ (List.getElem_mem (show i < l.length by omega))
      obtain ⟨s, rfl, s0⟩ := frm_str (e2 0 (by omega)) g2
      obtain ⟨t, rfl, t0⟩ := frm_str (e2 1 (by omega)) g3
      exact ⟨⟨s, t⟩, fun _ => ⟨ec, s0, t0⟩⟩
    · exact ⟨⟨⟨#[]⟩, ⟨#[]⟩⟩, fun h => absurd h hi⟩
  obtain ⟨f, hf⟩ := Classical.axiomOfChoice step
  have e : ds = ((List.range ds.length).map f).map IdD.cells := by
    apply List.ext_getElem
    · simp
    · intro i h1 h2
      simp only [List.getElem_map, List.getElem_range]
      exact (hf i h1).1
  refine ⟨(List.range ds.length).map f, by simp [hl], fun x hx => ?_, by rw [← e]; exact hs⟩
  obtain ⟨i, hi, rfl⟩ := List.mem_map.1 hx
  exact (hf i (List.mem_range.1 hi)).2

/-- A request in memory is then another one, of as many parts. -/
theorem RqIn.turns {w w' : World} (ht : Turns w w') {F : Nat → Prop} {cs : List Value} {r : Rq} (h : RqIn w F cs r) : r.good → ∀ cs' : List Value, cs'.length = 11 → (∀ j, j < 11 → FrmV (cs.getD j (.bool false)) (cs'.getD j (.bool false))) → ∃ r' : Rq, RqIn w' F cs' r' ∧ r'.good ∧ r'.parts = r.parts := by
  induction h with
  | mk f n ops dv av wv ov oc hd ha hw ho fd fa fw fo _ ih =>
    intro hg cs' hl hc
    obtain ⟨hgf, hn, hgo⟩ := hg
    obtain ⟨c0, c1, c2, c3, c4, c5, c6, c7, c8, c9, c10, rfl⟩ := list11 hl
    have hc' := hc
    clear hl hc
    obtain ⟨data', hdl, hdb, hd'⟩ := hd.turns ht hgf.byts
    obtain ⟨acl', hal, hab, ha'⟩ := acl_turns ht ha hgf.ae
    obtain ⟨who', hwl, hwb, hw'⟩ := who_turns ht hw hgf.we
    obtain ⟨ds, hol, hoe, ho'⟩ := ho.turns ht
    rw [List.length_ofFn] at hol
    have hcl : ∀ i : Fin n, ∃ ri : Rq, RqIn w' F (ds[i.1]'(by omega)) ri ∧ ri.good ∧ ri.parts = (ops i).parts := fun i => by
      obtain ⟨e1, e2⟩ := hoe i.1 (by rw [List.length_ofFn]; exact i.2) (by omega)
      refine ih i (hgo i) _ e1 (fun j hj => ?_)
      have := e2 j hj
      simpa using this
    obtain ⟨opsf, hops⟩ := Classical.axiomOfChoice hcl
    obtain ⟨k', rfl, k0, k1⟩ := frm_i8 (hc' 0 (by omega)) hgf.k0 hgf.k1
    obtain ⟨p', rfl, p0⟩ := frm_str (hc' 1 (by omega)) hgf.pl
    have e2 : c2 = dv := by
      obtain ⟨a, c, rfl, _⟩ := hd
      exact frm_slice (hc' 2 (by omega))
    have e3 : c3 = av := by
      obtain ⟨a, c, rfl, _⟩ := ha
      exact frm_slice (hc' 3 (by omega))
    have e4 : c4 = .int .i32 f.ver := frm_i32 (hc' 4 (by omega))
    have e5 : c5 = .bool f.eph := frm_bool (hc' 5 (by omega))
    have e6 : c6 = .bool f.seq := frm_bool (hc' 6 (by omega))
    have e7 : c7 = .int .i64 f.ses := frm_i64 (hc' 7 (by omega))
    have e8 : c8 = .int .i32 f.tmo := frm_i32 (hc' 8 (by omega))
    have e9 : c9 = wv := by
      obtain ⟨a, c, rfl, _⟩ := hw
      exact frm_slice (hc' 9 (by omega))
    have e10 : c10 = ov := by
      obtain ⟨a, c, rfl, _⟩ := ho
      exact frm_slice (hc' 10 (by omega))
    subst e2 e3 e4 e5 e6 e7 e8 e9 e10
    have hds : ds = List.ofFn fun i : Fin n => ds[i.1]'(by omega) := by
      apply List.ext_getElem
      · simp [hol]
      · intro i h1 h2; simp
    refine ⟨.mk ⟨k', p', data', acl', f.ver, f.eph, f.seq, f.ses, f.tmo, who'⟩ n opsf, ?_, ⟨⟨k0, k1, hgf.v0, hgf.v1, hgf.s0, hgf.s1, hgf.t0, hgf.t1, hdb, p0, by rw [hdl]; exact hgf.dl, by rw [hal]; exact hgf.al, by rw [hwl]; exact hgf.wl, hab, hwb⟩, hn, fun i => (hops i).2.1⟩, ?_⟩
    · rw [hds] at ho'
      exact .mk ⟨k', p', data', acl', f.ver, f.eph, f.seq, f.ses, f.tmo, who'⟩ n opsf _ _ _ _ (fun i : Fin n => ds[i.1]'(by omega)) hd' ha' hw' ho' fd fa fw fo (fun i => (hops i).1)
    · have e : (List.ofFn fun i : Fin n => (opsf i).parts) = List.ofFn fun i : Fin n => (ops i).parts := congrArg List.ofFn (funext fun i => (hops i).2.2)
      show RqF.parts _ + _ = RqF.parts _ + _
      rw [e]
      simp only [RqF.parts, hdl, hal, hwl]
end Go.Proofs.YtoeialngbbfoeaaGreatDoor

/- What the statements' own first look 'works' answers: true; nothing that was there before is changed. -/
namespace Go.Proofs.YtoeialngbbfoeaaGreatDoor
open Go.RowKit
set_option maxRecDepth 8000

end Go.Proofs.YtoeialngbbfoeaaGreatDoor

/- What a law's walk is told of a slice of integers that came in, and what follows for slices of bytes; no Go function is walked here. -/
namespace Go.Proofs.YtoeialngbbfoeaaGreatDoor
open Go.ChangeShapes Go.WideShapes Go.ChangeAt Go.RowKit
set_option maxRecDepth 8000

theorem xor_byte (x y : Int) (h0 : 0 ≤ x) (h1 : x ≤ 255) (h2 : 0 ≤ y) (h3 : y ≤ 255) : 0 ≤ bits .xor .u8 x y ∧ bits .xor .u8 x y ≤ 255 := by
  rw [u8_xor x y (by omega) (by omega) (by omega) (by omega)]
  have : x.toNat ^^^ y.toNat < 2 ^ 8 := Nat.xor_lt_two_pow (by omega) (by omega)
  omega

end Go.Proofs.YtoeialngbbfoeaaGreatDoor
