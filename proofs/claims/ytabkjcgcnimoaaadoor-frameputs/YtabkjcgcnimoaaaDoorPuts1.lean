/- What Put and One answer, of the program and of the document, in one form each; lists of the call's own that lie apart. -/
import Derived.Test.YtabkjcgcnimoaaaDoorRef3b
import Derived.Test.YtabkjcgcnimoaaaDoorFrLives
import Derived.Test.YtabkjcgcnimoaaaDoorWide
import Derived.Test.YtabkjcgcnimoaaaDoorBag3
namespace Go.Proofs.YtabkjcgcnimoaaaDoor
open Go.RowKit
set_option maxRecDepth 8000

def pErr (xs : List Int) : Int := if isSz xs.length = true then 0 else 30
def pBytes (xs : List Int) : List Int := if isSz xs.length = true then frameL xs else []
abbrev OneIs (ys : List Int) : Prop := bodyLen ys ≠ 0 ∧ bodyLen ys + 9 = ys.length
def oErr (ys : List Int) : Int := if OneIs ys then 0 else 30
def oBytes (ys : List Int) : List Int := if OneIs ys then (ys.drop 8).take (bodyLen ys) else []

/-- What a call answers that hands out bytes of its own and an error. -/
abbrev Ans (f : Nat) (v : Value) (w : World) (bs : List Int) (r : Int) : Prop :=
  Calls Tryd.prog f #[v] w fun e w' => ∃ a n c, e = .returned (.tuple #[.slice a n c, .int .i64 r]) ∧ Owns w' w.heap.size (.slice a n c) bs ∧ Below w.heap.size w w'

theorem put_u (v : Value) (xs : List Int) (w : World) (h : Sees w v xs) (hb : Byts xs) : Ans 7 v w (pBytes xs) (pErr xs) := by
  unfold pBytes pErr
  by_cases hs : isSz xs.length = true
  · rw [if_pos hs, if_pos hs]
    refine (put_ok v xs w h hb hs).mono ?_
    rintro e w' ⟨g, rfl, _, ho, hB⟩
    exact ⟨_, _, _, rfl, ho, hB⟩
  · rw [if_neg hs, if_neg hs]
    refine (put_bad v xs w h (by simpa using hs)).mono ?_
    rintro e w' ⟨rfl, rfl⟩
    exact ⟨_, _, _, rfl, World.ownsRow_nil _ _ _ _, Below.refl _ _⟩

theorem refPut_u (v : Value) (xs : List Int) (w : World) (h : Sees w v xs) (hb : Byts xs) : Ans 6 v w (pBytes xs) (pErr xs) := by
  unfold pBytes pErr
  by_cases hs : isSz xs.length = true
  · rw [if_pos hs, if_pos hs]
    refine (refPut_ok v xs w h hb hs).mono ?_
    rintro e w' ⟨u, rfl, ho, hB⟩
    obtain ⟨a, n, c, rfl⟩ := owns_shape ho
    exact ⟨_, _, _, rfl, ho, hB⟩
  · rw [if_neg hs, if_neg hs]
    refine (refPut_bad v xs w h (by simpa using hs)).mono ?_
    rintro e w' ⟨rfl, rfl⟩
    exact ⟨_, _, _, rfl, World.ownsRow_nil _ _ _ _, Below.refl _ _⟩

theorem not_one {ys : List Int} (h : ¬ OneIs ys) : bodyLen ys = 0 ∨ bodyLen ys + 9 ≠ ys.length := by
  by_cases h0 : bodyLen ys = 0
  · exact .inl h0
  · exact .inr (fun e => h ⟨h0, e⟩)

theorem one_u (v : Value) (ys : List Int) (w : World) (h : Sees w v ys) (hb : Byts ys) (hl : ys.length ≤ 70000000000000) : Ans 9 v w (oBytes ys) (oErr ys) := by
  unfold oBytes oErr
  by_cases hs : OneIs ys
  · rw [if_pos hs, if_pos hs]
    refine (one_ok v ys w h hb (by omega) hs.1 hs.2).mono ?_
    rintro e w' ⟨g, rfl, _, ho, hB⟩
    exact ⟨_, _, _, rfl, ho, hB⟩
  · rw [if_neg hs, if_neg hs]
    refine (one_bad v ys w h hb (by omega) (not_one hs)).mono ?_
    rintro e w' ⟨rfl, hB⟩
    exact ⟨_, _, _, rfl, World.ownsRow_nil _ _ _ _, hB⟩

theorem refOne_u (v : Value) (ys : List Int) (w : World) (h : Sees w v ys) (hb : Byts ys) (hl : ys.length ≤ 70000000000000) : Ans 10 v w (oBytes ys) (oErr ys) := by
  unfold oBytes oErr
  by_cases hs : OneIs ys
  · rw [if_pos hs, if_pos hs]
    refine (refOne_ok v ys w h hb hl hs.1 hs.2).mono ?_
    rintro e w' ⟨u, rfl, ho, hB⟩
    obtain ⟨a, n, c, rfl⟩ := owns_shape ho
    exact ⟨_, _, _, rfl, ho, hB⟩
  · rw [if_neg hs, if_neg hs]
    refine (refOne_bad v ys w h hb hl (not_one hs)).mono ?_
    rintro e w' ⟨rfl, hB⟩
    exact ⟨_, _, _, rfl, World.ownsRow_nil _ _ _ _, hB⟩

theorem pBytes_byts {xs : List Int} (hb : Byts xs) : Byts (pBytes xs) := by
  unfold pBytes
  split
  · rename_i hs
    have ha := adler_bd xs
    have hl : (xs.length : Int) ≤ 1048576 := by simp [isSz] at hs; omega
    refine Byts.append (Byts.append ?_ ?_) (hb.append (byts_lit rfl))
    · intro x hx
      simp only [be4, List.mem_cons, List.not_mem_nil, or_false] at hx
      rcases hx with rfl | rfl | rfl | rfl <;> omega
    · intro x hx
      simp only [be4, List.mem_cons, List.not_mem_nil, or_false] at hx
      rcases hx with rfl | rfl | rfl | rfl <;> omega
  · intro x hx; simp at hx

theorem pBytes_len (xs : List Int) : (pBytes xs).length ≤ 1048585 := by
  unfold pBytes
  split
  · rename_i hs
    rw [frameL_len]
    simp [isSz] at hs
    omega
  · simp

/-- Two lists lie in two blocks. -/
def Apt (p q : Value × List Int) : Prop := ∀ k, p.1.ownBlock = some k → q.1.ownBlock ≠ some k

/-- Lists of the call's own that lie apart, and beside them one at block g. -/
structure St (B g L : Nat) (m : List (Value × List Int)) (zs : List Int) (w : World) : Prop where
  rows : ∀ p ∈ m, Owns w B p.1 p.2
  ap : m.Pairwise Apt
  inn : Owns w B (.slice (some ⟨g, 0, none⟩) zs.length (L + 64)) zs
  far : ∀ p ∈ m, p.1.ownBlock ≠ some g
  base : B ≤ w.heap.size

theorem St.later {B g L : Nat} {m : List (Value × List Int)} {zs : List Int} {w w' : World} (h : St B g L m zs w) (hb : Below w.heap.size w w') : St B g L m zs w' :=
  ⟨fun p hp => Owns.kept (h.rows p hp) ((Below.kept hb).mono (S' := fun _ => False) (fun k hk h => by omega)) (fun _ _ h => h), h.ap, Owns.kept h.inn ((Below.kept hb).mono (S' := fun _ => False) (fun k hk h => by omega)) (fun _ _ h => h), h.far, Nat.le_trans h.base hb.size⟩

theorem St.add {B g L : Nat} {m : List (Value × List Int)} {zs : List Int} {w w' : World} (h : St B g L m zs w) (hb : Below w.heap.size w w') {v : Value} {xs : List Int} (ho : Owns w' w.heap.size v xs) : St B g L ((v, xs) :: m) zs w' := by
  have h' := h.later hb
  have hv : ∀ k, v.ownBlock = some k → w.heap.size ≤ k := fun k e => (ho.lt k e).1
  refine ⟨fun p hp => ?_, List.pairwise_cons.2 ⟨fun p hp k e e' => ?_, h.ap⟩, h'.inn, fun p hp => ?_, h'.base⟩
  · rcases List.mem_cons.1 hp with rfl | hp
    · exact owns_mono ho h.base
    · exact h'.rows p hp
  · have h1 := hv k e
    have h2 := rows_lt (h.rows p hp) e'
    omega
  · rcases List.mem_cons.1 hp with rfl | hp
    · intro e
      have h1 := hv g e
      have h2 : g < w.heap.size := rows_lt h.inn rfl
      omega
    · exact h.far p hp

theorem St.set {B g L : Nat} {m : List (Value × List Int)} {zs : List Int} {w : World} (h : St B g L m zs w) (i : Nat) (y : Int) : St B g L m (zs.set i y) (w.setCell ⟨g, i, none⟩ (.int .u8 y)) := by
  have hk : Kept w (w.setCell ⟨g, i, none⟩ (.int .u8 y)) (· = g) := (Kept.refl w (· = g)).setCell ⟨g, i, none⟩ _ (fun _ => rfl)
  refine ⟨fun p hp => Owns.kept (h.rows p hp) hk (fun k e e' => by subst e'; exact h.far p hp e), h.ap, (owns_set h.inn i y).1, h.far, Nat.le_trans h.base hk.size⟩

theorem St.see {B g L : Nat} {m : List (Value × List Int)} {zs : List Int} {w : World} (h : St B g L m zs w) {p : Value × List Int} (hp : p ∈ m) : Sees w p.1 p.2 := Sees.own (h.rows p hp)

theorem St.input {B g L : Nat} {m : List (Value × List Int)} {zs : List Int} {w : World} (h : St B g L m zs w) (hl : zs.length = L + 64) : Sees w (.slice (some ⟨g, 0, none⟩) L (L + 64)) (zs.take L) := sees_prefix h.inn (by omega)

theorem foot_own {q : Pc} {k x : Nat} (h : q.foot k x) : q.val.ownBlock = some k := by
  obtain ⟨off, e, _⟩ := h
  unfold Pc.val
  rw [e]
  rfl

theorem apart_pairs {ks : List Pc} (h : ks.Pairwise (fun p q => ∀ k, p.val.ownBlock = some k → q.val.ownBlock ≠ some k)) : ApartPcs ks := by
  rw [List.pairwise_iff_getElem] at h
  intro i j hi hj hne k x h1 h2
  rcases Nat.lt_or_gt_of_ne hne with hlt | hlt
  · exact h i j hi hj hlt k (foot_own h1) (foot_own h2)
  · exact h j i hj hi hlt k (foot_own h2) (foot_own h1)

theorem lies_own {w : World} {B : Nat} {q : Pc} {bs : List Int} (h : Owns w B q.val bs) : Lies w 5 q ∧ q.n = bs.length ∧ ∀ k x, q.foot k x → B ≤ k := by
  have h' : w.ownsRow B 5 1 q.val (bs.map (Value.int .u8)).length (bs.map (Value.int .u8)) := by rw [List.length_map]; exact h
  obtain ⟨p, e, hn, _, hl, hf⟩ := own_has h'
  have e2 : q = p := by
    unfold Pc.val at e
    simp at e
    obtain ⟨a, n, c⟩ := q
    obtain ⟨a', n', c'⟩ := p
    simp at e
    obtain ⟨rfl, rfl, rfl⟩ := e
    rfl
  subst e2
  exact ⟨hl, by rw [hn, List.length_map], hf⟩

theorem lies_in {w : World} {B g L : Nat} {zs : List Int} (h : Owns w B (.slice (some ⟨g, 0, none⟩) zs.length (L + 64)) zs) : Lies w 5 ⟨some ⟨g, 0, none⟩, L, L + 64⟩ ∧ B ≤ g := by
  have h1 := lies_own (q := ⟨some ⟨g, 0, none⟩, zs.length, L + 64⟩) h
  obtain ⟨⟨_, hm, hnil, hat⟩, _, hf⟩ := h1
  refine ⟨⟨by simp, hm, hnil, hat⟩, hf g 0 ⟨0, rfl, by omega, by simp⟩⟩

theorem lies_same {w w' : World} {E : TypeId} {q : Pc} (h : Lies w E q) (he : ∀ k, q.val.ownBlock = some k → k < w.heap.size → w'.heap[k]? = w.heap[k]?) : Lies w' E q := by
  refine ⟨h.le, h.most, h.nil, fun hc => ?_⟩
  obtain ⟨k, off, cs, e, hr, hs⟩ := h.at' hc
  refine ⟨k, off, cs, e, ?_, hs⟩
  rw [he k (by unfold Pc.val; rw [e]; rfl) (lt_of_block hr)]
  exact hr

/-- What is known when the Bag is filled. -/
theorem puts_bag {w X X2 w3 : World} {B0 g L gB : Nat} {m : List (Value × List Int)} {zs : List Int} (S : St B0 g L m zs X) (hB : Below w.heap.size w X) (hw : w.heap.size ≤ B0) (ht : Tab w) (hg0 : 0 < w.heap.size)
    (ks : List Pc) (hks : ∀ q ∈ ks, (∃ bs, (q.val, bs) ∈ m) ∨ q = ⟨some ⟨g, 0, none⟩, L, L + 64⟩) (hL : L ≤ 2147483647) (hlen : ∀ p ∈ m, p.2.length ≤ 70000000000000)
    (hap : ks.Pairwise (fun p q => ∀ k, p.val.ownBlock = some k → q.val.ownBlock ≠ some k)) (hk2 : Kept X X2 (fun _ => False)) (hgB : X.heap.size ≤ gB) (hk3 : Kept X2 w3 (fun k => k = gB)) :
    (∀ q ∈ ks, Lies w3 5 q) ∧ ApartPcs ks ∧ (∀ q ∈ ks, q.n ≤ 70000000000000) ∧ Tab w3 ∧ (∀ k x, feet ks k x → w.heap.size ≤ k) ∧ Below w.heap.size w w3 := by
  have hall : Kept X w3 (fun k => k = gB) := (hk2.mono (fun _ _ h => h.elim)).trans hk3 (fun _ _ h => h)
  have hsame : ∀ k, k < X.heap.size → w3.heap[k]? = X.heap[k]? := fun k hk => hall.block k hk (fun e => by omega)
  have hb3 : Below w.heap.size w w3 := hB.trans ⟨hall.os, hall.tape, hall.output, hall.size, fun k hk => hsame k (by have := hB.size; omega)⟩
  have each : ∀ q ∈ ks, Lies X 5 q ∧ q.n ≤ 70000000000000 ∧ ∀ k x, q.foot k x → B0 ≤ k := fun q hq => by
    rcases hks q hq with ⟨bs, hm⟩ | rfl
    · obtain ⟨h1, h2, h3⟩ := lies_own (S.rows _ hm)
      exact ⟨h1, by rw [h2]; exact hlen _ hm, h3⟩
    · obtain ⟨h1, h2⟩ := lies_in S.inn
      refine ⟨h1, by show L ≤ _; omega, fun k x hf => ?_⟩
      obtain ⟨off, e, _⟩ := hf
      simp at e
      omega
  refine ⟨fun q hq => lies_same (each q hq).1 (fun k _ hk => hsame k hk), apart_pairs hap, fun q hq => (each q hq).2.1, ht.below hb3 hg0, fun k x hf => ?_, hb3⟩
  obtain ⟨q, hq, hf⟩ := hf
  have := (each q hq).2.2 k x hf
  omega

theorem St.apart {B g L : Nat} {m : List (Value × List Int)} {zs : List Int} {w : World} (h : St B g L m zs w) (i j : Nat) (hi : i < m.length) (hj : j < m.length) (hne : i ≠ j) : Apt m[i] m[j] := by
  have hp := List.pairwise_iff_getElem.1 h.ap
  rcases Nat.lt_or_gt_of_ne hne with hlt | hlt
  · exact hp i j hi hj hlt
  · exact fun k e e' => hp j i hj hi hlt k e' e

end Go.Proofs.YtabkjcgcnimoaaaDoor
