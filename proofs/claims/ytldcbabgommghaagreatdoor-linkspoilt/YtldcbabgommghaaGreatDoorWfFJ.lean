/- get of package txn at bytes that were laid: every request but a Multi. -/
import Derived.Test.YtldcbabgommghaaGreatDoorWfEJ
import Derived.Test.YtldcbabgommghaaGreatDoorPutMJ
import Derived.Test.YtldcbabgommghaaGreatDoorPkKJ
import Derived.Laws.Closers25b
namespace Go.Proofs.YtldcbabgommghaaGreatDoor
open Go.RowKit
set_option maxRecDepth 8000

/-- What get answers of a request: its cells, its lists in the Reader's row or in new blocks. -/
abbrev GetsRq (l0 l1 : Int) (g : Nat) (v : Value) (r : Rq) (rest : List Int) (w : World) : Prop := Calls Tryz.prog 140 #[lay l0 l1, .pointer (some ⟨g, 0, none⟩)] w fun e w' => ∃ cs, e = .returned (.agg cs.toArray) ∧ cs.length = 11 ∧ RqIn w' (fun k => v.ownBlock = some k ∨ (w.heap.size ≤ k ∧ k < w'.heap.size)) cs r ∧ ReadsTo w g v ⟨0, rest, 0⟩ w'

theorem encP_more (p d a v e z t o : Bool) (f : RqF) (rest : List Int) : encP p d a v e z t o f [] ++ rest = encP p d a v e z t o f rest := by simp [encP]

theorem text_nil {s : ByteArray} (h : (!s.toList.isEmpty) = false) : s = ⟨#[]⟩ :=
  ((toList_nil_iff_emptyBytes s).1 (by simpa using h)).trans rfl

theorem gz_9 : ∀ b0 b1 b2 b3 b4 b5 b6 b7 b8 b9 : Bool, (bits .andNot .u16 (fillz b0 b1 b2 b3 b4 b5 b6 b7 b8 b9) 9 == 0) = (!b1 && !b2 && !b4 && !b5 && !b6 && !b7 && !b8 && !b9) := by decide +kernel

theorem gz_11 : ∀ b0 b1 b2 b3 b4 b5 b6 b7 b8 b9 : Bool, (bits .andNot .u16 (fillz b0 b1 b2 b3 b4 b5 b6 b7 b8 b9) 11 == 0) = (!b2 && !b4 && !b5 && !b6 && !b7 && !b8 && !b9) := by decide +kernel

theorem gz_13 : ∀ b0 b1 b2 b3 b4 b5 b6 b7 b8 b9 : Bool, (bits .andNot .u16 (fillz b0 b1 b2 b3 b4 b5 b6 b7 b8 b9) 13 == 0) = (!b1 && !b4 && !b5 && !b6 && !b7 && !b8 && !b9) := by decide +kernel

theorem gz_55 : ∀ b0 b1 b2 b3 b4 b5 b6 b7 b8 b9 : Bool, (bits .andNot .u16 (fillz b0 b1 b2 b3 b4 b5 b6 b7 b8 b9) 55 == 0) = (!b3 && !b6 && !b7 && !b8 && !b9) := by decide +kernel

theorem gz_64 : ∀ b0 b1 b2 b3 b4 b5 b6 b7 b8 b9 : Bool, (bits .andNot .u16 (fillz b0 b1 b2 b3 b4 b5 b6 b7 b8 b9) 64 == 0) = (!b0 && !b1 && !b2 && !b3 && !b4 && !b5 && !b7 && !b8 && !b9) := by decide +kernel

theorem gz_128 : ∀ b0 b1 b2 b3 b4 b5 b6 b7 b8 b9 : Bool, (bits .andNot .u16 (fillz b0 b1 b2 b3 b4 b5 b6 b7 b8 b9) 128 == 0) = (!b0 && !b1 && !b2 && !b3 && !b4 && !b5 && !b6 && !b8 && !b9) := by decide +kernel

theorem gz_329 : ∀ b0 b1 b2 b3 b4 b5 b6 b7 b8 b9 : Bool, (bits .andNot .u16 (fillz b0 b1 b2 b3 b4 b5 b6 b7 b8 b9) 329 == 0) = (!b1 && !b2 && !b4 && !b5 && !b7 && !b9) := by decide +kernel

theorem gz_331 : ∀ b0 b1 b2 b3 b4 b5 b6 b7 b8 b9 : Bool, (bits .andNot .u16 (fillz b0 b1 b2 b3 b4 b5 b6 b7 b8 b9) 331 == 0) = (!b2 && !b4 && !b5 && !b7 && !b9) := by decide +kernel

theorem gz_333 : ∀ b0 b1 b2 b3 b4 b5 b6 b7 b8 b9 : Bool, (bits .andNot .u16 (fillz b0 b1 b2 b3 b4 b5 b6 b7 b8 b9) 333 == 0) = (!b1 && !b4 && !b5 && !b7 && !b9) := by decide +kernel

theorem gz_375 : ∀ b0 b1 b2 b3 b4 b5 b6 b7 b8 b9 : Bool, (bits .andNot .u16 (fillz b0 b1 b2 b3 b4 b5 b6 b7 b8 b9) 375 == 0) = (!b3 && !b7 && !b9) := by decide +kernel

theorem get_in1 (f : RqF) (n : Nat) (ops : Fin n → Rq) (hk : f.kind = 1) (hfl : flatOk 5 320 f n = true) (hbd : bdOk f = true) (hgf : f.good) (g : Nat) (v : Value) (rest : List Int) (w : World) (h : IsR w g v (encP true true true false true false false false f rest) 0) (hb : Byts (encP true true true false true false false false f rest)) (hn : Nam w) (hg : 1 < g) :
    GetsRq 5 320 g v (.mk f n ops) rest w := by
  have hN : nms 5 320 f.kind = 55 := by rw [hk]; decide
  simp only [flatOk, Bool.and_eq_true] at hfl
  rw [hN] at hfl
  have hz := hfl.1.2
  unfold fz at hz
  rw [gz_55] at hz
  simp only [Bool.and_eq_true, Bool.not_eq_true'] at hz
  obtain ⟨⟨⟨⟨q3, q6⟩, q7⟩, q8⟩, q9⟩ := hz
  have hn0 : n = 0 := by simpa using q9
  subst hn0
  obtain ⟨kind, path, data, acl, ver, eph, seq, ses, tmo, who⟩ := f
  simp only at hk hN h hb q3 q6 q7 q8
  refine (get_flat 5 320 55 kind ver ses tmo path data acl eph seq who true true true false true false false false g v rest w h hb hn hg (by decide) hN (by decide) (by decide) (by decide) (by decide) (by decide) (by decide) (by decide) (by decide) (by decide) (by decide) (by decide) hbd hgf (fun h => by cases h) (fun h => by cases h) (fun h => by cases h) (fun _ => by simpa using q3) (fun h => by cases h) (fun _ => by simpa using q6) (fun _ => by simpa using q7) (fun _ => List.eq_nil_of_length_eq_zero (by simpa using q8))).mono ?_
  rintro e w' ⟨dv, av, wv, rfl, h1, h2, h3, h4, h5, h6, h7⟩
  exact ⟨_, rfl, rfl, .mk _ 0 ops dv av wv (.slice none 0 0) (fun i => i.elim0) h1 h3 h5 (by simpa using SeesR.nil w' 11) (fun k e => .inl (h2 k e)) (fun k e => .inr (h4 k e)) (fun k e => .inr (h6 k e)) (fun k e => by simp [Value.ownBlock] at e) (fun i => i.elim0), h7⟩

theorem get_in2 (f : RqF) (n : Nat) (ops : Fin n → Rq) (hk : f.kind = 2) (hfl : flatOk 5 320 f n = true) (hbd : bdOk f = true) (hgf : f.good) (g : Nat) (v : Value) (rest : List Int) (w : World) (h : IsR w g v (encP true false false true false false false false f rest) 0) (hb : Byts (encP true false false true false false false false f rest)) (hn : Nam w) (hg : 1 < g) :
    GetsRq 5 320 g v (.mk f n ops) rest w := by
  have hN : nms 5 320 f.kind = 9 := by rw [hk]; decide
  simp only [flatOk, Bool.and_eq_true] at hfl
  rw [hN] at hfl
  have hz := hfl.1.2
  unfold fz at hz
  rw [gz_9] at hz
  simp only [Bool.and_eq_true, Bool.not_eq_true'] at hz
  obtain ⟨⟨⟨⟨⟨⟨⟨q1, q2⟩, q4⟩, q5⟩, q6⟩, q7⟩, q8⟩, q9⟩ := hz
  have hn0 : n = 0 := by simpa using q9
  subst hn0
  obtain ⟨kind, path, data, acl, ver, eph, seq, ses, tmo, who⟩ := f
  simp only at hk hN h hb q1 q2 q4 q5 q6 q7 q8
  refine (get_flat 5 320 9 kind ver ses tmo path data acl eph seq who true false false true false false false false g v rest w h hb hn hg (by decide) hN (by decide) (by decide) (by decide) (by decide) (by decide) (by decide) (by decide) (by decide) (by decide) (by decide) (by decide) hbd hgf (fun h => by cases h) (fun _ => List.eq_nil_of_length_eq_zero (by simpa using q1)) (fun _ => List.eq_nil_of_length_eq_zero (by simpa using q2)) (fun h => by cases h) (fun _ => ⟨q4, q5⟩) (fun _ => by simpa using q6) (fun _ => by simpa using q7) (fun _ => List.eq_nil_of_length_eq_zero (by simpa using q8))).mono ?_
  rintro e w' ⟨dv, av, wv, rfl, h1, h2, h3, h4, h5, h6, h7⟩
  exact ⟨_, rfl, rfl, .mk _ 0 ops dv av wv (.slice none 0 0) (fun i => i.elim0) h1 h3 h5 (by simpa using SeesR.nil w' 11) (fun k e => .inl (h2 k e)) (fun k e => .inr (h4 k e)) (fun k e => .inr (h6 k e)) (fun k e => by simp [Value.ownBlock] at e) (fun i => i.elim0), h7⟩

theorem get_in3 (f : RqF) (n : Nat) (ops : Fin n → Rq) (hk : f.kind = 3) (hfl : flatOk 5 320 f n = true) (hbd : bdOk f = true) (hgf : f.good) (g : Nat) (v : Value) (rest : List Int) (w : World) (h : IsR w g v (encP true true false true false false false false f rest) 0) (hb : Byts (encP true true false true false false false false f rest)) (hn : Nam w) (hg : 1 < g) :
    GetsRq 5 320 g v (.mk f n ops) rest w := by
  have hN : nms 5 320 f.kind = 11 := by rw [hk]; decide
  simp only [flatOk, Bool.and_eq_true] at hfl
  rw [hN] at hfl
  have hz := hfl.1.2
  unfold fz at hz
  rw [gz_11] at hz
  simp only [Bool.and_eq_true, Bool.not_eq_true'] at hz
  obtain ⟨⟨⟨⟨⟨⟨q2, q4⟩, q5⟩, q6⟩, q7⟩, q8⟩, q9⟩ := hz
  have hn0 : n = 0 := by simpa using q9
  subst hn0
  obtain ⟨kind, path, data, acl, ver, eph, seq, ses, tmo, who⟩ := f
  simp only at hk hN h hb q2 q4 q5 q6 q7 q8
  refine (get_flat 5 320 11 kind ver ses tmo path data acl eph seq who true true false true false false false false g v rest w h hb hn hg (by decide) hN (by decide) (by decide) (by decide) (by decide) (by decide) (by decide) (by decide) (by decide) (by decide) (by decide) (by decide) hbd hgf (fun h => by cases h) (fun h => by cases h) (fun _ => List.eq_nil_of_length_eq_zero (by simpa using q2)) (fun h => by cases h) (fun _ => ⟨q4, q5⟩) (fun _ => by simpa using q6) (fun _ => by simpa using q7) (fun _ => List.eq_nil_of_length_eq_zero (by simpa using q8))).mono ?_
  rintro e w' ⟨dv, av, wv, rfl, h1, h2, h3, h4, h5, h6, h7⟩
  exact ⟨_, rfl, rfl, .mk _ 0 ops dv av wv (.slice none 0 0) (fun i => i.elim0) h1 h3 h5 (by simpa using SeesR.nil w' 11) (fun k e => .inl (h2 k e)) (fun k e => .inr (h4 k e)) (fun k e => .inr (h6 k e)) (fun k e => by simp [Value.ownBlock] at e) (fun i => i.elim0), h7⟩

theorem get_in4 (f : RqF) (n : Nat) (ops : Fin n → Rq) (hk : f.kind = 4) (hfl : flatOk 5 320 f n = true) (hbd : bdOk f = true) (hgf : f.good) (g : Nat) (v : Value) (rest : List Int) (w : World) (h : IsR w g v (encP true false true true false false false false f rest) 0) (hb : Byts (encP true false true true false false false false f rest)) (hn : Nam w) (hg : 1 < g) :
    GetsRq 5 320 g v (.mk f n ops) rest w := by
  have hN : nms 5 320 f.kind = 13 := by rw [hk]; decide
  simp only [flatOk, Bool.and_eq_true] at hfl
  rw [hN] at hfl
  have hz := hfl.1.2
  unfold fz at hz
  rw [gz_13] at hz
  simp only [Bool.and_eq_true, Bool.not_eq_true'] at hz
  obtain ⟨⟨⟨⟨⟨⟨q1, q4⟩, q5⟩, q6⟩, q7⟩, q8⟩, q9⟩ := hz
  have hn0 : n = 0 := by simpa using q9
  subst hn0
  obtain ⟨kind, path, data, acl, ver, eph, seq, ses, tmo, who⟩ := f
  simp only at hk hN h hb q1 q4 q5 q6 q7 q8
  refine (get_flat 5 320 13 kind ver ses tmo path data acl eph seq who true false true true false false false false g v rest w h hb hn hg (by decide) hN (by decide) (by decide) (by decide) (by decide) (by decide) (by decide) (by decide) (by decide) (by decide) (by decide) (by decide) hbd hgf (fun h => by cases h) (fun _ => List.eq_nil_of_length_eq_zero (by simpa using q1)) (fun h => by cases h) (fun h => by cases h) (fun _ => ⟨q4, q5⟩) (fun _ => by simpa using q6) (fun _ => by simpa using q7) (fun _ => List.eq_nil_of_length_eq_zero (by simpa using q8))).mono ?_
  rintro e w' ⟨dv, av, wv, rfl, h1, h2, h3, h4, h5, h6, h7⟩
  exact ⟨_, rfl, rfl, .mk _ 0 ops dv av wv (.slice none 0 0) (fun i => i.elim0) h1 h3 h5 (by simpa using SeesR.nil w' 11) (fun k e => .inl (h2 k e)) (fun k e => .inr (h4 k e)) (fun k e => .inr (h6 k e)) (fun k e => by simp [Value.ownBlock] at e) (fun i => i.elim0), h7⟩

theorem get_in5 (f : RqF) (n : Nat) (ops : Fin n → Rq) (hk : f.kind = 5) (hfl : flatOk 5 320 f n = true) (hbd : bdOk f = true) (hgf : f.good) (g : Nat) (v : Value) (rest : List Int) (w : World) (h : IsR w g v (encP true false false true false false false false f rest) 0) (hb : Byts (encP true false false true false false false false f rest)) (hn : Nam w) (hg : 1 < g) :
    GetsRq 5 320 g v (.mk f n ops) rest w := by
  have hN : nms 5 320 f.kind = 9 := by rw [hk]; decide
  simp only [flatOk, Bool.and_eq_true] at hfl
  rw [hN] at hfl
  have hz := hfl.1.2
  unfold fz at hz
  rw [gz_9] at hz
  simp only [Bool.and_eq_true, Bool.not_eq_true'] at hz
  obtain ⟨⟨⟨⟨⟨⟨⟨q1, q2⟩, q4⟩, q5⟩, q6⟩, q7⟩, q8⟩, q9⟩ := hz
  have hn0 : n = 0 := by simpa using q9
  subst hn0
  obtain ⟨kind, path, data, acl, ver, eph, seq, ses, tmo, who⟩ := f
  simp only at hk hN h hb q1 q2 q4 q5 q6 q7 q8
  refine (get_flat 5 320 9 kind ver ses tmo path data acl eph seq who true false false true false false false false g v rest w h hb hn hg (by decide) hN (by decide) (by decide) (by decide) (by decide) (by decide) (by decide) (by decide) (by decide) (by decide) (by decide) (by decide) hbd hgf (fun h => by cases h) (fun _ => List.eq_nil_of_length_eq_zero (by simpa using q1)) (fun _ => List.eq_nil_of_length_eq_zero (by simpa using q2)) (fun h => by cases h) (fun _ => ⟨q4, q5⟩) (fun _ => by simpa using q6) (fun _ => by simpa using q7) (fun _ => List.eq_nil_of_length_eq_zero (by simpa using q8))).mono ?_
  rintro e w' ⟨dv, av, wv, rfl, h1, h2, h3, h4, h5, h6, h7⟩
  exact ⟨_, rfl, rfl, .mk _ 0 ops dv av wv (.slice none 0 0) (fun i => i.elim0) h1 h3 h5 (by simpa using SeesR.nil w' 11) (fun k e => .inl (h2 k e)) (fun k e => .inr (h4 k e)) (fun k e => .inr (h6 k e)) (fun k e => by simp [Value.ownBlock] at e) (fun i => i.elim0), h7⟩

theorem get_out1 (f : RqF) (n : Nat) (ops : Fin n → Rq) (hk : f.kind = 1) (hfl : flatOk 8 0 f n = true) (hbd : bdOk f = true) (hgf : f.good) (g : Nat) (v : Value) (rest : List Int) (w : World) (h : IsR w g v (encP true true true false true true false true f rest) 0) (hb : Byts (encP true true true false true true false true f rest)) (hn : Nam w) (hg : 1 < g) :
    GetsRq 8 0 g v (.mk f n ops) rest w := by
  have hN : nms 8 0 f.kind = 375 := by rw [hk]; decide
  simp only [flatOk, Bool.and_eq_true] at hfl
  rw [hN] at hfl
  have hz := hfl.1.2
  unfold fz at hz
  rw [gz_375] at hz
  simp only [Bool.and_eq_true, Bool.not_eq_true'] at hz
  obtain ⟨⟨q3, q7⟩, q9⟩ := hz
  have hn0 : n = 0 := by simpa using q9
  subst hn0
  obtain ⟨kind, path, data, acl, ver, eph, seq, ses, tmo, who⟩ := f
  simp only at hk hN h hb q3 q7
  refine (get_flat 8 0 375 kind ver ses tmo path data acl eph seq who true true true false true true false true g v rest w h hb hn hg (by decide) hN (by decide) (by decide) (by decide) (by decide) (by decide) (by decide) (by decide) (by decide) (by decide) (by decide) (by decide) hbd hgf (fun h => by cases h) (fun h => by cases h) (fun h => by cases h) (fun _ => by simpa using q3) (fun h => by cases h) (fun h => by cases h) (fun _ => by simpa using q7) (fun h => by cases h)).mono ?_
  rintro e w' ⟨dv, av, wv, rfl, h1, h2, h3, h4, h5, h6, h7⟩
  exact ⟨_, rfl, rfl, .mk _ 0 ops dv av wv (.slice none 0 0) (fun i => i.elim0) h1 h3 h5 (by simpa using SeesR.nil w' 11) (fun k e => .inl (h2 k e)) (fun k e => .inr (h4 k e)) (fun k e => .inr (h6 k e)) (fun k e => by simp [Value.ownBlock] at e) (fun i => i.elim0), h7⟩

theorem get_out2 (f : RqF) (n : Nat) (ops : Fin n → Rq) (hk : f.kind = 2) (hfl : flatOk 8 0 f n = true) (hbd : bdOk f = true) (hgf : f.good) (g : Nat) (v : Value) (rest : List Int) (w : World) (h : IsR w g v (encP true false false true false true false true f rest) 0) (hb : Byts (encP true false false true false true false true f rest)) (hn : Nam w) (hg : 1 < g) :
    GetsRq 8 0 g v (.mk f n ops) rest w := by
  have hN : nms 8 0 f.kind = 329 := by rw [hk]; decide
  simp only [flatOk, Bool.and_eq_true] at hfl
  rw [hN] at hfl
  have hz := hfl.1.2
  unfold fz at hz
  rw [gz_329] at hz
  simp only [Bool.and_eq_true, Bool.not_eq_true'] at hz
  obtain ⟨⟨⟨⟨⟨q1, q2⟩, q4⟩, q5⟩, q7⟩, q9⟩ := hz
  have hn0 : n = 0 := by simpa using q9
  subst hn0
  obtain ⟨kind, path, data, acl, ver, eph, seq, ses, tmo, who⟩ := f
  simp only at hk hN h hb q1 q2 q4 q5 q7
  refine (get_flat 8 0 329 kind ver ses tmo path data acl eph seq who true false false true false true false true g v rest w h hb hn hg (by decide) hN (by decide) (by decide) (by decide) (by decide) (by decide) (by decide) (by decide) (by decide) (by decide) (by decide) (by decide) hbd hgf (fun h => by cases h) (fun _ => List.eq_nil_of_length_eq_zero (by simpa using q1)) (fun _ => List.eq_nil_of_length_eq_zero (by simpa using q2)) (fun h => by cases h) (fun _ => ⟨q4, q5⟩) (fun h => by cases h) (fun _ => by simpa using q7) (fun h => by cases h)).mono ?_
  rintro e w' ⟨dv, av, wv, rfl, h1, h2, h3, h4, h5, h6, h7⟩
  exact ⟨_, rfl, rfl, .mk _ 0 ops dv av wv (.slice none 0 0) (fun i => i.elim0) h1 h3 h5 (by simpa using SeesR.nil w' 11) (fun k e => .inl (h2 k e)) (fun k e => .inr (h4 k e)) (fun k e => .inr (h6 k e)) (fun k e => by simp [Value.ownBlock] at e) (fun i => i.elim0), h7⟩

theorem get_out3 (f : RqF) (n : Nat) (ops : Fin n → Rq) (hk : f.kind = 3) (hfl : flatOk 8 0 f n = true) (hbd : bdOk f = true) (hgf : f.good) (g : Nat) (v : Value) (rest : List Int) (w : World) (h : IsR w g v (encP true true false true false true false true f rest) 0) (hb : Byts (encP true true false true false true false true f rest)) (hn : Nam w) (hg : 1 < g) :
    GetsRq 8 0 g v (.mk f n ops) rest w := by
  have hN : nms 8 0 f.kind = 331 := by rw [hk]; decide
  simp only [flatOk, Bool.and_eq_true] at hfl
  rw [hN] at hfl
  have hz := hfl.1.2
  unfold fz at hz
  rw [gz_331] at hz
  simp only [Bool.and_eq_true, Bool.not_eq_true'] at hz
  obtain ⟨⟨⟨⟨q2, q4⟩, q5⟩, q7⟩, q9⟩ := hz
  have hn0 : n = 0 := by simpa using q9
  subst hn0
  obtain ⟨kind, path, data, acl, ver, eph, seq, ses, tmo, who⟩ := f
  simp only at hk hN h hb q2 q4 q5 q7
  refine (get_flat 8 0 331 kind ver ses tmo path data acl eph seq who true true false true false true false true g v rest w h hb hn hg (by decide) hN (by decide) (by decide) (by decide) (by decide) (by decide) (by decide) (by decide) (by decide) (by decide) (by decide) (by decide) hbd hgf (fun h => by cases h) (fun h => by cases h) (fun _ => List.eq_nil_of_length_eq_zero (by simpa using q2)) (fun h => by cases h) (fun _ => ⟨q4, q5⟩) (fun h => by cases h) (fun _ => by simpa using q7) (fun h => by cases h)).mono ?_
  rintro e w' ⟨dv, av, wv, rfl, h1, h2, h3, h4, h5, h6, h7⟩
  exact ⟨_, rfl, rfl, .mk _ 0 ops dv av wv (.slice none 0 0) (fun i => i.elim0) h1 h3 h5 (by simpa using SeesR.nil w' 11) (fun k e => .inl (h2 k e)) (fun k e => .inr (h4 k e)) (fun k e => .inr (h6 k e)) (fun k e => by simp [Value.ownBlock] at e) (fun i => i.elim0), h7⟩

theorem get_out4 (f : RqF) (n : Nat) (ops : Fin n → Rq) (hk : f.kind = 4) (hfl : flatOk 8 0 f n = true) (hbd : bdOk f = true) (hgf : f.good) (g : Nat) (v : Value) (rest : List Int) (w : World) (h : IsR w g v (encP true false true true false true false true f rest) 0) (hb : Byts (encP true false true true false true false true f rest)) (hn : Nam w) (hg : 1 < g) :
    GetsRq 8 0 g v (.mk f n ops) rest w := by
  have hN : nms 8 0 f.kind = 333 := by rw [hk]; decide
  simp only [flatOk, Bool.and_eq_true] at hfl
  rw [hN] at hfl
  have hz := hfl.1.2
  unfold fz at hz
  rw [gz_333] at hz
  simp only [Bool.and_eq_true, Bool.not_eq_true'] at hz
  obtain ⟨⟨⟨⟨q1, q4⟩, q5⟩, q7⟩, q9⟩ := hz
  have hn0 : n = 0 := by simpa using q9
  subst hn0
  obtain ⟨kind, path, data, acl, ver, eph, seq, ses, tmo, who⟩ := f
  simp only at hk hN h hb q1 q4 q5 q7
  refine (get_flat 8 0 333 kind ver ses tmo path data acl eph seq who true false true true false true false true g v rest w h hb hn hg (by decide) hN (by decide) (by decide) (by decide) (by decide) (by decide) (by decide) (by decide) (by decide) (by decide) (by decide) (by decide) hbd hgf (fun h => by cases h) (fun _ => List.eq_nil_of_length_eq_zero (by simpa using q1)) (fun h => by cases h) (fun h => by cases h) (fun _ => ⟨q4, q5⟩) (fun h => by cases h) (fun _ => by simpa using q7) (fun h => by cases h)).mono ?_
  rintro e w' ⟨dv, av, wv, rfl, h1, h2, h3, h4, h5, h6, h7⟩
  exact ⟨_, rfl, rfl, .mk _ 0 ops dv av wv (.slice none 0 0) (fun i => i.elim0) h1 h3 h5 (by simpa using SeesR.nil w' 11) (fun k e => .inl (h2 k e)) (fun k e => .inr (h4 k e)) (fun k e => .inr (h6 k e)) (fun k e => by simp [Value.ownBlock] at e) (fun i => i.elim0), h7⟩

theorem get_out5 (f : RqF) (n : Nat) (ops : Fin n → Rq) (hk : f.kind = 5) (hfl : flatOk 8 0 f n = true) (hbd : bdOk f = true) (hgf : f.good) (g : Nat) (v : Value) (rest : List Int) (w : World) (h : IsR w g v (encP true false false true false true false true f rest) 0) (hb : Byts (encP true false false true false true false true f rest)) (hn : Nam w) (hg : 1 < g) :
    GetsRq 8 0 g v (.mk f n ops) rest w := by
  have hN : nms 8 0 f.kind = 329 := by rw [hk]; decide
  simp only [flatOk, Bool.and_eq_true] at hfl
  rw [hN] at hfl
  have hz := hfl.1.2
  unfold fz at hz
  rw [gz_329] at hz
  simp only [Bool.and_eq_true, Bool.not_eq_true'] at hz
  obtain ⟨⟨⟨⟨⟨q1, q2⟩, q4⟩, q5⟩, q7⟩, q9⟩ := hz
  have hn0 : n = 0 := by simpa using q9
  subst hn0
  obtain ⟨kind, path, data, acl, ver, eph, seq, ses, tmo, who⟩ := f
  simp only at hk hN h hb q1 q2 q4 q5 q7
  refine (get_flat 8 0 329 kind ver ses tmo path data acl eph seq who true false false true false true false true g v rest w h hb hn hg (by decide) hN (by decide) (by decide) (by decide) (by decide) (by decide) (by decide) (by decide) (by decide) (by decide) (by decide) (by decide) hbd hgf (fun h => by cases h) (fun _ => List.eq_nil_of_length_eq_zero (by simpa using q1)) (fun _ => List.eq_nil_of_length_eq_zero (by simpa using q2)) (fun h => by cases h) (fun _ => ⟨q4, q5⟩) (fun h => by cases h) (fun _ => by simpa using q7) (fun h => by cases h)).mono ?_
  rintro e w' ⟨dv, av, wv, rfl, h1, h2, h3, h4, h5, h6, h7⟩
  exact ⟨_, rfl, rfl, .mk _ 0 ops dv av wv (.slice none 0 0) (fun i => i.elim0) h1 h3 h5 (by simpa using SeesR.nil w' 11) (fun k e => .inl (h2 k e)) (fun k e => .inr (h4 k e)) (fun k e => .inr (h6 k e)) (fun k e => by simp [Value.ownBlock] at e) (fun i => i.elim0), h7⟩

theorem get_out7 (f : RqF) (n : Nat) (ops : Fin n → Rq) (hk : f.kind = 7) (hfl : flatOk 8 0 f n = true) (hbd : bdOk f = true) (hgf : f.good) (g : Nat) (v : Value) (rest : List Int) (w : World) (h : IsR w g v (encP false false false false false false true false f rest) 0) (hb : Byts (encP false false false false false false true false f rest)) (hn : Nam w) (hg : 1 < g) :
    GetsRq 8 0 g v (.mk f n ops) rest w := by
  have hN : nms 8 0 f.kind = 128 := by rw [hk]; decide
  simp only [flatOk, Bool.and_eq_true] at hfl
  rw [hN] at hfl
  have hz := hfl.1.2
  unfold fz at hz
  rw [gz_128] at hz
  simp only [Bool.and_eq_true, Bool.not_eq_true'] at hz
  obtain ⟨⟨⟨⟨⟨⟨⟨⟨q0, q1⟩, q2⟩, q3⟩, q4⟩, q5⟩, q6⟩, q8⟩, q9⟩ := hz
  have hn0 : n = 0 := by simpa using q9
  subst hn0
  obtain ⟨kind, path, data, acl, ver, eph, seq, ses, tmo, who⟩ := f
  simp only at hk hN h hb q0 q1 q2 q3 q4 q5 q6 q8
  refine (get_flat 8 0 128 kind ver ses tmo path data acl eph seq who false false false false false false true false g v rest w h hb hn hg (by decide) hN (by decide) (by decide) (by decide) (by decide) (by decide) (by decide) (by decide) (by decide) (by decide) (by decide) (by decide) hbd hgf (fun _ => text_nil q0) (fun _ => List.eq_nil_of_length_eq_zero (by simpa using q1)) (fun _ => List.eq_nil_of_length_eq_zero (by simpa using q2)) (fun _ => by simpa using q3) (fun _ => ⟨q4, q5⟩) (fun _ => by simpa using q6) (fun h => by cases h) (fun _ => List.eq_nil_of_length_eq_zero (by simpa using q8))).mono ?_
  rintro e w' ⟨dv, av, wv, rfl, h1, h2, h3, h4, h5, h6, h7⟩
  exact ⟨_, rfl, rfl, .mk _ 0 ops dv av wv (.slice none 0 0) (fun i => i.elim0) h1 h3 h5 (by simpa using SeesR.nil w' 11) (fun k e => .inl (h2 k e)) (fun k e => .inr (h4 k e)) (fun k e => .inr (h6 k e)) (fun k e => by simp [Value.ownBlock] at e) (fun i => i.elim0), h7⟩

theorem get_out8 (f : RqF) (n : Nat) (ops : Fin n → Rq) (hk : f.kind = 8) (hfl : flatOk 8 0 f n = true) (hbd : bdOk f = true) (hgf : f.good) (g : Nat) (v : Value) (rest : List Int) (w : World) (h : IsR w g v (encP false false false false false true false false f rest) 0) (hb : Byts (encP false false false false false true false false f rest)) (hn : Nam w) (hg : 1 < g) :
    GetsRq 8 0 g v (.mk f n ops) rest w := by
  have hN : nms 8 0 f.kind = 64 := by rw [hk]; decide
  simp only [flatOk, Bool.and_eq_true] at hfl
  rw [hN] at hfl
  have hz := hfl.1.2
  unfold fz at hz
  rw [gz_64] at hz
  simp only [Bool.and_eq_true, Bool.not_eq_true'] at hz
  obtain ⟨⟨⟨⟨⟨⟨⟨⟨q0, q1⟩, q2⟩, q3⟩, q4⟩, q5⟩, q7⟩, q8⟩, q9⟩ := hz
  have hn0 : n = 0 := by simpa using q9
  subst hn0
  obtain ⟨kind, path, data, acl, ver, eph, seq, ses, tmo, who⟩ := f
  simp only at hk hN h hb q0 q1 q2 q3 q4 q5 q7 q8
  refine (get_flat 8 0 64 kind ver ses tmo path data acl eph seq who false false false false false true false false g v rest w h hb hn hg (by decide) hN (by decide) (by decide) (by decide) (by decide) (by decide) (by decide) (by decide) (by decide) (by decide) (by decide) (by decide) hbd hgf (fun _ => text_nil q0) (fun _ => List.eq_nil_of_length_eq_zero (by simpa using q1)) (fun _ => List.eq_nil_of_length_eq_zero (by simpa using q2)) (fun _ => by simpa using q3) (fun _ => ⟨q4, q5⟩) (fun h => by cases h) (fun _ => by simpa using q7) (fun _ => List.eq_nil_of_length_eq_zero (by simpa using q8))).mono ?_
  rintro e w' ⟨dv, av, wv, rfl, h1, h2, h3, h4, h5, h6, h7⟩
  exact ⟨_, rfl, rfl, .mk _ 0 ops dv av wv (.slice none 0 0) (fun i => i.elim0) h1 h3 h5 (by simpa using SeesR.nil w' 11) (fun k e => .inl (h2 k e)) (fun k e => .inr (h4 k e)) (fun k e => .inr (h6 k e)) (fun k e => by simp [Value.ownBlock] at e) (fun i => i.elim0), h7⟩

theorem getIn_bk (r : Rq) (hok : r.inOk = true) (hg : r.good) (g : Nat) (v : Value) (rest : List Int) (w : World) (h : IsR w g v (encIn r ++ rest) 0) (hb : Byts (encIn r ++ rest)) (hn : Nam w) (hg0 : 1 < g) : GetsRq 5 320 g v r rest w := by
  cases r with
  | mk f n ops =>
    have hok' := hok
    obtain ⟨h1, h5, hbd⟩ := inOk_inv hok
    simp only [Rq.inOk, Bool.and_eq_true] at hok'
    rw [encIn_mk] at h hb
    by_cases k1 : f.kind = 1
    · rw [if_pos k1, encP_more] at h hb; exact get_in1 f n ops k1 hok'.1 hbd hg.1 g v rest w h hb hn hg0
    rw [if_neg k1] at h hb
    by_cases k3 : f.kind = 3
    · rw [if_pos k3, encP_more] at h hb; exact get_in3 f n ops k3 hok'.1 hbd hg.1 g v rest w h hb hn hg0
    rw [if_neg k3] at h hb
    by_cases k4 : f.kind = 4
    · rw [if_pos k4, encP_more] at h hb; exact get_in4 f n ops k4 hok'.1 hbd hg.1 g v rest w h hb hn hg0
    rw [if_neg k4, encP_more] at h hb
    by_cases k2 : f.kind = 2
    · exact get_in2 f n ops k2 hok'.1 hbd hg.1 g v rest w h hb hn hg0
    · exact get_in5 f n ops (by omega) hok'.1 hbd hg.1 g v rest w h hb hn hg0
end Go.Proofs.YtldcbabgommghaaGreatDoor
