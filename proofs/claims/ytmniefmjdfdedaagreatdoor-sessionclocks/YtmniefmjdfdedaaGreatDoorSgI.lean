/- A World of the law: what each call of its clock and of the document's leaves. -/
import Derived.Test.YtmniefmjdfdedaaGreatDoorSgX
import Derived.Test.YtmniefmjdfdedaaGreatDoorSgE
namespace Go.Proofs.YtmniefmjdfdedaaGreatDoor
open Go.RowKit Go.Shelf
set_option maxRecDepth 8000
set_option linter.unusedSimpArgs false
set_option linter.unusedVariables false

/-- The clock and the document's fit. -/
structure Fit (R : WoR) (T : Int) : Prop where
  tn : R.t = R.now
  mt : Mate R.span R.l R.dl
  ok : ∀ y ∈ R.dl, OkD R.now y
  ln : R.dl.length ≤ 64
  s1 : 1 ≤ R.span
  s2 : R.span ≤ 1000
  t0 : 0 ≤ R.now
  t1 : R.now ≤ T
  wx : R.ws.length = R.xs.length
theorem Fit.more {R : WoR} {T T' : Int} (h : Fit R T) (hT : T ≤ T') : Fit R T' := ⟨h.tn, h.mt, h.ok, h.ln, h.s1, h.s2, h.t0, by have := h.t1; omega, h.wx⟩
theorem Fit.lw {R : WoR} {T : Int} (h : Fit R T) : R.l.length ≤ 64 := by rw [h.mt.len]; exact h.ln
/-- What a call leaves. -/
def DoTo (w W W' : World) (own : Nat → Nat) (p : Nat) (R : WoR) (T : Int) : Prop := ∃ own' R', Wo w W' own' p R' ∧ Fit R' T ∧ (R'.x = R.x ∧ R'.c = R.c ∧ R'.d = R.d) ∧ (∀ k, k < W.heap.size → own' k = own k) ∧ Kept W W' (fun k => own k = p)

section
variable {w W W' : World} {own : Nat → Nat} {p : Nat} {R : WoR} {T : Int}
theorem upO_old {n k : Nat} (h : k < n) : upO own n p k = own k := by unfold upO; rw [if_pos h]
theorem Wo.kC (h : Wo w W own p R) : ∀ k, TuC R.c R.m k → own k = p := fun k e => h.o k (.inr (.inl (by rcases e with e | e; exact .inl e; exact .inr (.inl e))))
theorem Wo.kD (h : Wo w W own p R) : ∀ k, FtD R.d R.sv R.bv k → own k = p := fun k e => h.o k (.inr (.inr (.inl e)))
theorem Wo.doc' (h : Wo w W own p R) {now' : Int} {dl' : List DcT} (hd : DcTo W W' R.d R.sv R.bv now' R.span dl') (f : ∀ sv' bv', Fit { R with sv := sv', bv := bv', now := now', dl := dl' } T) : DoTo w W W' own p R T := by
  obtain ⟨vs, vb, h1, h2, h3⟩ := hd
  exact ⟨_, _, h.doc h1 h2 h3, f vs vb, ⟨rfl, rfl, rfl⟩, fun k hk => upO_old hk, h2.mono (fun k _ e => h.kD k e)⟩

/-- Whose a box is: nobody's. -/
def bxO (own : Nat → Nat) (n k : Nat) : Nat := if k < n then own k else 7
theorem Wo.box (h : Wo w W own p R) (hp : p ≠ 7) (hb : Below W.heap.size W W') : Wo w W' (bxO own W.heap.size) p R := by
  have h1 := h.belowO hb
  refine ⟨h1.row, h1.ck, h1.dc, h1.kr, h1.wr, h1.ko, h1.wo, h1.kn, h1.lk, h1.lw, h1.nn, h1.ap, h1.kw, h1.sb, fun k hf => ?_, fun k e => ?_, h1.be⟩
  · unfold bxO; rw [if_pos (h.lt hf)]; exact h.o k hf
  · unfold bxO at e
    split at e
    · exact h.lo k e
    · exact absurd e.symm hp
theorem DoTo.out {W0 : World} (h : DoTo w W0 W' (bxO own W.heap.size) p R T) (hb : Below W.heap.size W W0) : DoTo w W W' own p R T := by
  obtain ⟨own', R', h1, h2, h3, h4, h5⟩ := h
  have e : ∀ k, k < W.heap.size → bxO own W.heap.size k = own k := fun k hk => by unfold bxO; rw [if_pos hk]
  refine ⟨own', R', h1, h2, h3, fun k hk => (h4 k (Nat.lt_of_lt_of_le hk hb.size)).trans (e k hk), ?_⟩
  have := kept_of_belowS (S := fun k => own k = p) hb
  refine ⟨h5.os.trans this.os, h5.tape.trans this.tape, h5.output.trans this.output, Nat.le_trans this.size h5.size, fun k hk hn => ?_⟩
  rw [h5.block k (Nat.lt_of_lt_of_le hk this.size) (fun q => hn (by rw [← e k hk]; exact q)), this.block k hk hn]
theorem Wo.cx (h : Wo w W own p R) : W.cell? ⟨R.x, 0, none⟩ = some (.pointer (some ⟨R.c, 0, none⟩)) ∧ W.cell? ⟨R.x, 1, none⟩ = some (.pointer (some ⟨R.d, 0, none⟩)) := ⟨by rw [cell_of_row _ _ 0 _ _ _ h.row]; rfl, by rw [cell_of_row _ _ 1 _ _ _ h.row]; rfl⟩
theorem DoTo.cx (h : DoTo w W W' own p R T) : W'.cell? ⟨R.x, 0, none⟩ = some (.pointer (some ⟨R.c, 0, none⟩)) ∧ W'.cell? ⟨R.x, 1, none⟩ = some (.pointer (some ⟨R.d, 0, none⟩)) := by
  obtain ⟨own', R', h1, _, ⟨e1, e2, e3⟩, _⟩ := h
  rw [← e1, ← e2, ← e3]
  exact h1.cx
theorem Wo.drewN (h : Wo w W own p R) (n : Nat) : Wo w (W.drewN n) own p R := h.belowO ⟨rfl, rfl, rfl, Nat.le_refl _, fun _ _ => rfl⟩
theorem DoTo.drewN (h : DoTo w W W' own p R T) (n : Nat) : DoTo w W (W'.drewN n) own p R T := by
  obtain ⟨own', R', h1, h2, h3, h4, h5⟩ := h
  exact ⟨own', R', h1.drewN n, h2, h3, h4, h5.drewN n⟩

theorem wo_add (h : Wo w W own p R) (f : Fit R T) (hT : T ≤ 3000000000000000000) (id tm : Int) :
    Calls Tryz.prog 9 #[.pointer (some ⟨R.c, 0, none⟩), .int .i64 id, .int .i32 tm] W fun e w' => e = .returned (.int .i64 (addE R.l id tm)) ∧ Hid (Wo w w' own p { R with l := addL R.l id tm (upT (R.now + tm) R.span) }) ∧ Hid (Kept W w' (fun k => k = R.m)) := by
  have h0 := f.t0
  have h1 := f.t1
  refine (add_any h.ck id tm f.s1 f.s2 (by rw [f.tn]; exact h0) (by rw [f.tn]; omega)).mono fun e w' q => ⟨q.1, ?_, q.2.2⟩
  have e1 : upT (R.t + tm) R.span = upT (R.now + tm) R.span := by rw [f.tn]
  have := h.clk q.2.1 (q.2.2.mono (fun _ _ e => .inr e))
  rw [e1] at this
  exact this
theorem getL_iff (f : Fit R T) (id : Int) : getL R.l id = none ↔ id ∉ idD R.dl := by rw [← getL_none, f.mt.ids id]
theorem addE_addD (f : Fit R T) (id tm : Int) : addE R.l id tm = addD R.dl id tm := by
  unfold addE addD
  by_cases h1 : id < 1 ∨ tm < 1 ∨ 1000 < tm
  · rw [if_pos h1, if_pos h1]
  · rw [if_neg h1, if_neg h1]
    by_cases h2 : getL R.l id = none ∧ 64 ≤ R.l.length
    · rw [if_pos h2, if_pos ⟨(getL_iff f id).1 h2.1, by rw [← f.mt.len]; exact h2.2⟩]
    · rw [if_neg h2, if_neg (fun q => h2 ⟨(getL_iff f id).2 q.1, by rw [f.mt.len]; exact q.2⟩)]
theorem doc_add {l' : List LfT} (f : Fit R T) (id tm : Int) (hl' : l' = addL R.l id tm (upT (R.now + tm) R.span)) (h : Wo w W own p { R with l := l' }) :
    Calls Tryz.prog 13 #[.pointer (some ⟨R.d, 0, none⟩), .int .i64 id, .int .i32 tm] W fun e w' => e = .returned (.int .i64 (addE R.l id tm)) ∧ Hid (DoTo w W w' own p R T) := by
  have hln := f.ln
  rw [addE_addD f]
  unfold addD
  by_cases hb : id < 1 ∨ tm < 1 ∨ 1000 < tm
  · rw [if_pos hb]
    have e : l' = R.l := by rw [hl']; unfold addL; rw [addE_addD f, if_neg (by unfold addD; rw [if_pos hb]; omega)]
    rw [e] at h
    exact (refAdd_bad id tm hb).mono fun e w' q => ⟨q.1, own, R, by rw [q.2]; exact h, f, ⟨rfl, rfl, rfl⟩, fun _ _ => rfl, by rw [q.2]; exact Kept.refl _ _⟩
  · rw [if_neg hb]
    have b1 : 1 ≤ id := by omega
    have b2 : 1 ≤ tm := by omega
    have b3 : tm ≤ 1000 := by omega
    by_cases hf : id ∉ idD R.dl ∧ 64 ≤ R.dl.length
    · rw [if_pos hf]
      have e : l' = R.l := by rw [hl']; unfold addL; rw [addE_addD f, if_neg (by unfold addD; rw [if_neg hb, if_pos hf]; omega)]
      rw [e] at h
      exact (refAdd_full h.dc id tm (by show R.dl.length ≤ 1000; omega) b1 b2 b3 hf.1 hf.2).mono fun e w' q => ⟨q.1, own, R, by rw [q.2]; exact h, f, ⟨rfl, rfl, rfl⟩, fun _ _ => rfl, by rw [q.2]; exact Kept.refl _ _⟩
    · rw [if_neg hf]
      have e : l' = putL R.l (id, tm, upT (R.now + tm) R.span) := by rw [hl']; unfold addL; rw [addE_addD f, if_pos (by unfold addD; rw [if_neg hb, if_neg hf])]
      subst e
      have hup := f.mt.up
      have hF : ∀ sv' bv', Fit { R with l := putL R.l (id, tm, upT (R.now + tm) R.span), sv := sv', bv := bv', now := R.now, dl := insD (remD R.dl id) (id, tm, R.now) } T := fun sv' bv' => by
        refine ⟨f.tn, mate_put f.mt (id, tm, R.now), fun y hy => ?_, ?_, f.s1, f.s2, f.t0, f.t1, f.wx⟩
        · rcases List.mem_cons.1 ((insD_perm _ _).mem_iff.1 hy) with rfl | hy
          · exact ⟨b2, b3, f.t0, Int.le_refl _⟩
          · exact f.ok y (List.mem_filter.1 hy).1
        · show (insD (remD R.dl id) (id, tm, R.now)).length ≤ 64
          rw [(insD_perm _ _).length_eq, List.length_cons]
          by_cases hm : id ∈ idD R.dl
          · obtain ⟨y, hy, e⟩ := List.mem_map.1 hm
            have : (remD R.dl id).length < R.dl.length := List.length_filter_lt_length_iff_exists.2 ⟨y, hy, by simp [e]⟩
            omega
          · have : ¬ 64 ≤ R.dl.length := fun q => hf ⟨hm, q⟩
            rw [remD_none hm]; omega
      by_cases hm : id ∈ idD R.dl
      · exact (refAdd_old h.dc id tm hup (by show R.dl.length ≤ 900; omega) b1 b2 b3 hm).mono fun e w' q => ⟨q.1, h.doc' q.2 hF⟩
      · exact (refAdd_new h.dc id tm hup (by show R.dl.length ≤ 900; omega) b1 b2 b3 hm (by show R.dl.length < 64; have : ¬ 64 ≤ R.dl.length := fun q => hf ⟨hm, q⟩; omega)).mono fun e w' q => ⟨q.1, h.doc' q.2 hF⟩

/-- A session that is there. -/
theorem idD_split {dl : List DcT} {id : Int} (h : id ∈ idD dl) : ∃ a y b, dl = a ++ y :: b ∧ y.1 = id := by
  obtain ⟨y, hy, e⟩ := List.mem_map.1 h
  obtain ⟨a, b, e2⟩ := List.append_of_mem hy
  exact ⟨a, y, b, e2, e⟩
theorem wo_touch_no (h : Wo w W own p R) (f : Fit R T) (id : Int) (hm : id ∉ idD R.dl) :
    Calls Tryz.prog 14 #[.pointer (some ⟨R.c, 0, none⟩), .int .i64 id] W fun e w' => e = .returned (.int .i64 75) ∧ Hid (Wo w w' own p R) ∧ Hid (Kept W w' (fun k => k = R.m)) :=
  (touch_no h.ck id ((getL_iff f id).2 hm)).mono fun e w' q => ⟨q.1, h.belowO q.2, kept_of_belowS q.2⟩
theorem doc_touch_no (h : Wo w W own p R) (f : Fit R T) (id : Int) (hm : id ∉ idD R.dl) :
    Calls Tryz.prog 15 #[.pointer (some ⟨R.d, 0, none⟩), .int .i64 id] W fun e w' => e = .returned (.int .i64 75) ∧ Hid (DoTo w W w' own p R T) :=
  (refTouch_no h.dc id (by have := f.ln; omega) hm).mono fun e w' q => ⟨q.1, own, R, by rw [q.2]; exact h, f, ⟨rfl, rfl, rfl⟩, fun _ _ => rfl, by rw [q.2]; exact Kept.refl _ _⟩
theorem wo_touch (h : Wo w W own p R) (f : Fit R T) (hT : T ≤ 3000000000000000000) {a b : List DcT} {y : DcT} (hdl : R.dl = a ++ y :: b) :
    Calls Tryz.prog 14 #[.pointer (some ⟨R.c, 0, none⟩), .int .i64 y.1] W fun e w' => e = .returned (.int .i64 0) ∧ Hid (Wo w w' own p { R with l := putL R.l (y.1, y.2.1, upT (R.now + y.2.1) R.span) }) ∧ Hid (Kept W w' (fun k => k = R.m)) := by
  have h0 := f.t0
  have h1 := f.t1
  have hy : y ∈ R.dl := by rw [hdl]; simp
  have hoy := f.ok y hy
  refine (touch_yes h.ck y.1 (lfD R.span y) f.s1 f.s2 (by rw [f.tn]; exact h0) (by rw [f.tn]; omega) (mate_get f.mt hy) hoy.t1 hoy.t2).mono fun e w' q => ⟨q.1, ?_, q.2.2⟩
  have e1 : upT (R.t + (lfD R.span y).2.1) R.span = upT (R.now + y.2.1) R.span := by rw [f.tn]; rfl
  have := h.clk q.2.1 (q.2.2.mono (fun _ _ e => .inr e))
  rw [e1] at this
  exact this
theorem doc_touch {a b : List DcT} {y : DcT} (f : Fit R T) (hdl : R.dl = a ++ y :: b) (h : Wo w W own p { R with l := putL R.l (y.1, y.2.1, upT (R.now + y.2.1) R.span) }) :
    Calls Tryz.prog 15 #[.pointer (some ⟨R.d, 0, none⟩), .int .i64 y.1] W fun e w' => e = .returned (.int .i64 0) ∧ Hid (DoTo w W w' own p R T) := by
  have hl := f.ln
  have hup := f.mt.up
  have hd := h.dc
  have hdc : Dc W R.d R.sv R.bv R.now R.span (a ++ y :: b) := by rw [← hdl]; exact hd
  rw [hdl] at hl hup
  refine (refTouch_yes hdc (by omega) hup).mono fun e w' q => ⟨q.1, h.doc' q.2 fun sv' bv' => ⟨f.tn, ?_, fun z hz => ?_, ?_, f.s1, f.s2, f.t0, f.t1, f.wx⟩⟩
  · have := f.mt
    rw [hdl] at this
    exact mate_touch (now := R.now) this
  · have hy : y ∈ R.dl := by rw [hdl]; simp
    rcases List.mem_append.1 hz with hz | hz
    · exact f.ok z (by rw [hdl]; simp [hz])
    · rcases List.mem_cons.1 hz with rfl | hz
      · exact ⟨(f.ok y hy).t1, (f.ok y hy).t2, f.t0, Int.le_refl _⟩
      · exact f.ok z (by rw [hdl]; simp [hz])
  · show (a ++ (y.1, y.2.1, R.now) :: b).length ≤ 64
    simp at hl ⊢
    exact hl

/-- A list of ids is none of the document's blocks, none of the clock's. -/
theorem Wo.notD (h : Wo w W own p R) {B n : Nat} {v : Value} {xs : List Value} (hr : W.ownsRow B 2 1 v n xs) : ∀ g, v.ownBlock = some g → ¬ FtD R.d R.sv R.bv g := fun g e q => by
  rcases q with rfl | e2 | e2
  · exact rowNe hr h.dc.row (by decide) e
  · obtain ⟨c', e'⟩ := rowT h.dc.so e2
    exact rowNe hr e' (by decide) e
  · obtain ⟨c', e'⟩ := rowT h.dc.bo e2
    exact rowNe hr e' (by decide) e
/-- New blocks are taken for p's. -/
theorem Wo.re (h : Wo w W own p R) {n : Nat} (hn : w.heap.size ≤ n) : Wo w W (upO own n p) p R := by
  refine ⟨h.row, h.ck, h.dc, h.kr, h.wr, h.ko, h.wo, h.kn, h.lk, h.lw, h.nn, h.ap, h.kw, h.sb, fun k hf => ?_, fun k e => ?_, h.be⟩
  · unfold upO
    split
    · exact h.o k hf
    · rfl
  · unfold upO at e
    split at e
    · exact h.lo k e
    · omega

theorem isSome_in (f : Fit R T) (id : Int) : (getL R.l id).isSome = decide (id ∈ idD R.dl) := by
  by_cases hm : id ∈ idD R.dl
  · rw [decide_eq_true hm]
    cases hg : getL R.l id with
    | none => exact absurd hm ((getL_iff f id).1 hg)
    | some _ => rfl
  · rw [decide_eq_false hm, (getL_iff f id).2 hm]; rfl
theorem wo_remove (h : Wo w W own p R) (f : Fit R T) (id : Int) :
    Calls Tryz.prog 16 #[.pointer (some ⟨R.c, 0, none⟩), .int .i64 id] W fun e w' => e = .returned (.bool (decide (id ∈ idD R.dl))) ∧ Hid (Wo w w' own p { R with l := remL R.l id }) ∧ Hid (Kept W w' (fun k => k = R.m)) := by
  rw [← isSome_in f]
  exact (remove_any h.ck id f.mt.nd).mono fun e w' q => ⟨q.1, h.clk q.2.1 (q.2.2.mono (fun _ _ e => .inr e)), q.2.2⟩
theorem doc_remove (f : Fit R T) (id : Int) (h : Wo w W own p { R with l := remL R.l id }) :
    Calls Tryz.prog 17 #[.pointer (some ⟨R.d, 0, none⟩), .int .i64 id] W fun e w' => e = .returned (.bool (decide (id ∈ idD R.dl))) ∧ Hid (DoTo w W w' own p R T) :=
  (refRemove h.dc id (by have := f.ln; show R.dl.length ≤ 1000; omega) f.mt.up).mono fun e w' q => ⟨q.1, h.doc' q.2 fun sv' bv' => ⟨f.tn, mate_rem f.mt id, fun y hy => f.ok y (List.mem_filter.1 hy).1, Nat.le_trans (List.length_filter_le _ _) f.ln, f.s1, f.s2, f.t0, f.t1, f.wx⟩⟩

/-- What Due answers. -/
def dueD (R : WoR) (id : Int) : Int := (lookV R.l id).2.2
theorem wo_due (h : Wo w W own p R) (f : Fit R T) (id : Int) :
    Calls Tryz.prog 21 #[.pointer (some ⟨R.c, 0, none⟩), .int .i64 id] W fun e w' => e = .returned (.tuple #[.int .i64 (dueD R id), .bool (decide (id ∈ idD R.dl))]) ∧ Hid (Wo w w' own p R) ∧ Hid (Below W.heap.size W w') := by
  rw [← isSome_in f]
  exact (due_any h.ck id).mono fun e w' q => ⟨q.1, h.belowO q.2, q.2⟩
theorem doc_due (h : Wo w W own p R) (f : Fit R T) (hT : T ≤ 3000000000000000000) (id : Int) :
    Calls Tryz.prog 22 #[.pointer (some ⟨R.d, 0, none⟩), .int .i64 id] W fun e w' => e = .returned (.tuple #[.int .i64 (dueD R id), .bool (decide (id ∈ idD R.dl))]) ∧ Hid (Wo w w' own p R) ∧ Hid (Kept W w' (fun _ => False)) := by
  have hl := f.ln
  by_cases hm : id ∈ idD R.dl
  · obtain ⟨a, y, b, hdl, rfl⟩ := idD_split hm
    have hy : y ∈ R.dl := by rw [hdl]; simp
    have hoy := f.ok y hy
    have e : dueD R y.1 = upT (y.2.2 + y.2.1) R.span := by unfold dueD; rw [lookV_some (mate_get f.mt hy)]; rfl
    rw [decide_eq_true hm, e]
    have hd := h.dc
    have hup := f.mt.up
    have h1 := f.t1
    have hb := hoy.b1
    rw [hdl] at hd hup hl
    exact (refDueC_yes hd (by omega) hup f.s1 f.s2 hoy.b0 (by omega) hoy.t1 hoy.t2).mono fun e w' q => ⟨q.1, h.belowO (q.2.below (Nat.le_refl _) (fun _ e => e.elim)), q.2⟩
  · have e : dueD R id = 0 := by unfold dueD lookV; rw [(getL_iff f id).2 hm]; rfl
    rw [decide_eq_false hm, e]
    exact (refDueC_no h.dc id (by omega) hm).mono fun e w' q => ⟨q.1, by rw [q.2]; exact h, by rw [q.2]; exact Kept.refl _ _⟩

theorem wo_tick (h : Wo w W own p R) (f : Fit R T) (hT : T ≤ 3000000000000000000) :
    Calls Tryz.prog 10 #[.pointer (some ⟨R.c, 0, none⟩)] W fun e w' => ∃ u, e = .returned u ∧ Hid (OI w' W.heap.size u (tolD R.span R.dl (R.now + 1)) ∧ Wo w w' own p { R with t := R.now + 1, l := goL R.l (R.now + 1) } ∧ Kept W w' (TuC R.c R.m)) := by
  have h0 := f.t0
  have h1 := f.t1
  have hl := f.lw
  refine (tick_any h.ck f.mt.nd (by omega) (by rw [f.tn]; exact h0) (by rw [f.tn]; omega)).mono fun e w' q => ?_
  obtain ⟨u, q1, q2, q3, q4⟩ := q
  rw [f.tn] at q2 q3
  rw [mate_told f.mt] at q2
  exact ⟨u, q1, q2, h.clk q3 q4, q4⟩
theorem doc_tick (f : Fit R T) (hT : T ≤ 3000000000000000000) (h : Wo w W own p { R with t := R.now + 1, l := goL R.l (R.now + 1) }) :
    Calls Tryz.prog 19 #[.pointer (some ⟨R.d, 0, none⟩)] W fun e w' => ∃ u, e = .returned u ∧ Hid (OI w' W.heap.size u (tolD R.span R.dl (R.now + 1)) ∧ ∃ sv' bv', Wo w w' (upO own W.heap.size p) p { R with t := R.now + 1, l := goL R.l (R.now + 1), sv := sv', bv := bv', now := R.now + 1, dl := goD R.span R.dl (R.now + 1) } ∧ Fit { R with t := R.now + 1, l := goL R.l (R.now + 1), sv := sv', bv := bv', now := R.now + 1, dl := goD R.span R.dl (R.now + 1) } (T + 1) ∧ Kept W w' (FtD R.d R.sv R.bv)) := by
  have h0 := f.t0
  have h1 := f.t1
  have hl := f.ln
  refine (refTick h.dc f.mt.up (by show R.dl.length ≤ 900; omega) f.ok f.s1 f.s2 h0 (by show R.now ≤ _; omega)).mono fun e w' q => ?_
  obtain ⟨u, q1, q2, vs, vb, q3, q4, q5⟩ := q
  refine ⟨u, q1, q2, vs, vb, h.doc q3 q4 q5, ⟨rfl, mate_go f.mt _, fun y hy => (f.ok y (List.mem_filter.1 hy).1).more (by show R.now ≤ R.now + 1; omega), Nat.le_trans (List.length_filter_le _ _) f.ln, f.s1, f.s2, by show 0 ≤ R.now + 1; omega, by show R.now + 1 ≤ _; omega, f.wx⟩, q4⟩
end
end Go.Proofs.YtmniefmjdfdedaaGreatDoor
