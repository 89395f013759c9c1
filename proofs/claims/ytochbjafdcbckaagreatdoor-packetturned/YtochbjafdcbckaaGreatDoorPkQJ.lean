/- A packet that may be is what the fields that its kind names make; its length. No Go function is walked here. -/
import Derived.Test.YtochbjafdcbckaaGreatDoorPkPJ
namespace Go.Proofs.YtochbjafdcbckaaGreatDoor
open Go.RowKit
set_option maxRecDepth 8000
set_option linter.unusedVariables false

/-- A packet of a kind, and nothing else. -/
def pkZ (k : Int) : PkD := ⟨k, 0, 0, 0, 0, 0, 0, 0, 0, 0, 0, 0, false, false, txN, [], 0⟩
theorem z1 {a b : Int} (h : (!decide (a = 0 ∧ b = 0)) = false) : a = 0 ∧ b = 0 := by simpa using h
theorem z2 {a : Int} (h : (a != 0) = false) : a = 0 := by simpa using h
theorem z3 {l : List Int} (h : decide (0 < l.length) = false) : l = [] := by simpa using h
theorem z4 {b : Bool} (h : (!b) = false) : b = true := by simpa using h

theorem chk_parts {p : PkD} {tz : Bool} (h : chkP p tz = true) : (1 ≤ p.kind ∧ p.kind ≤ 14) ∧ (bits .andNot .u16 (fillP p tz) (nmP p.kind) != 0) = false ∧ ∀ j ∈ fldsP p, rgB j p = true := by
  have ha := chk_all h
  unfold chkP at h
  rw [Bool.and_eq_true, Bool.and_eq_true] at h
  exact ⟨kinds (by simpa using h.1.1), by simpa using h.1.2, ha⟩

theorem pk_ext {p q : PkD} (h0 : p.kind = q.kind) (h1 : p.cb = q.cb) (h2 : p.ct = q.ct) (h3 : p.lb = q.lb) (h4 : p.lt = q.lt) (h5 : p.place = q.place) (h6 : p.ep = q.ep) (h7 : p.cur = q.cur) (h8 : p.ze = q.ze) (h9 : p.zn = q.zn) (h10 : p.pe = q.pe) (h11 : p.pn = q.pn) (h12 : p.cnt = q.cnt) (h13 : p.fin = q.fin) (h14 : p.tx = q.tx) (h15 : p.bys = q.bys) (h16 : p.ses = q.ses) : p = q := by
  obtain ⟨⟩ := p
  obtain ⟨⟩ := q
  simp only at h0 h1 h2 h3 h4 h5 h6 h7 h8 h9 h10 h11 h12 h13 h14 h15 h16
  subst h0 h1 h2 h3 h4 h5 h6 h7 h8 h9 h10 h11 h12 h13 h14 h15 h16
  rfl

theorem fold_1 {p : PkD} {tz : Bool} (hz : tz = true ↔ p.tx = txN) (hk : p.kind = 1) (h : (bits .andNot .u16 (fillP p tz) (nmP p.kind) != 0) = false) : (fldsP p).foldl (fun d j => setF j p d) (pkZ p.kind) = p := by
  have e : nmP p.kind = 9 := by rw [hk]; decide
  rw [e] at h
  unfold fillP at h
  rw [am_9] at h
  simp only [Bool.or_eq_false_iff] at h
  obtain ⟨⟨⟨⟨⟨⟨⟨⟨⟨u1, u2⟩, u4⟩, u5⟩, u6⟩, u7⟩, u8⟩, u9⟩, u10⟩, u11⟩ := h
  show (flN (nmP p.kind) 12).foldl _ _ = p
  rw [e, fl_9]
  simp only [List.foldl_cons, List.foldl_nil, setF, pkZ]
  exact pk_ext rfl rfl rfl (z1 u1).1.symm (z1 u1).2.symm (z2 u2).symm rfl (z2 u4).symm (z1 u5).1.symm (z1 u5).2.symm (z1 u6).1.symm (z1 u6).2.symm (u7).symm (u8).symm (hz.1 (z4 u9)).symm (z3 u10).symm (z2 u11).symm

theorem fold_2 {p : PkD} {tz : Bool} (hz : tz = true ↔ p.tx = txN) (hk : p.kind = 2) (h : (bits .andNot .u16 (fillP p tz) (nmP p.kind) != 0) = false) : (fldsP p).foldl (fun d j => setF j p d) (pkZ p.kind) = p := by
  have e : nmP p.kind = 15 := by rw [hk]; decide
  rw [e] at h
  unfold fillP at h
  rw [am_15] at h
  simp only [Bool.or_eq_false_iff] at h
  obtain ⟨⟨⟨⟨⟨⟨⟨u4, u5⟩, u6⟩, u7⟩, u8⟩, u9⟩, u10⟩, u11⟩ := h
  show (flN (nmP p.kind) 12).foldl _ _ = p
  rw [e, fl_15]
  simp only [List.foldl_cons, List.foldl_nil, setF, pkZ]
  exact pk_ext rfl rfl rfl rfl rfl rfl rfl (z2 u4).symm (z1 u5).1.symm (z1 u5).2.symm (z1 u6).1.symm (z1 u6).2.symm (u7).symm (u8).symm (hz.1 (z4 u9)).symm (z3 u10).symm (z2 u11).symm

theorem fold_3 {p : PkD} {tz : Bool} (hz : tz = true ↔ p.tx = txN) (hk : p.kind = 3) (h : (bits .andNot .u16 (fillP p tz) (nmP p.kind) != 0) = false) : (fldsP p).foldl (fun d j => setF j p d) (pkZ p.kind) = p := by
  have e : nmP p.kind = 191 := by rw [hk]; decide
  rw [e] at h
  unfold fillP at h
  rw [am_191] at h
  simp only [Bool.or_eq_false_iff] at h
  obtain ⟨⟨⟨⟨u6, u8⟩, u9⟩, u10⟩, u11⟩ := h
  show (flN (nmP p.kind) 12).foldl _ _ = p
  rw [e, fl_191]
  simp only [List.foldl_cons, List.foldl_nil, setF, pkZ]
  exact pk_ext rfl rfl rfl rfl rfl rfl rfl rfl rfl rfl (z1 u6).1.symm (z1 u6).2.symm rfl (u8).symm (hz.1 (z4 u9)).symm (z3 u10).symm (z2 u11).symm

theorem fold_4 {p : PkD} {tz : Bool} (hz : tz = true ↔ p.tx = txN) (hk : p.kind = 4) (h : (bits .andNot .u16 (fillP p tz) (nmP p.kind) != 0) = false) : (fldsP p).foldl (fun d j => setF j p d) (pkZ p.kind) = p := by
  have e : nmP p.kind = 39 := by rw [hk]; decide
  rw [e] at h
  unfold fillP at h
  rw [am_39] at h
  simp only [Bool.or_eq_false_iff] at h
  obtain ⟨⟨⟨⟨⟨⟨⟨u3, u4⟩, u6⟩, u7⟩, u8⟩, u9⟩, u10⟩, u11⟩ := h
  show (flN (nmP p.kind) 12).foldl _ _ = p
  rw [e, fl_39]
  simp only [List.foldl_cons, List.foldl_nil, setF, pkZ]
  exact pk_ext rfl rfl rfl rfl rfl rfl (z2 u3).symm (z2 u4).symm rfl rfl (z1 u6).1.symm (z1 u6).2.symm (u7).symm (u8).symm (hz.1 (z4 u9)).symm (z3 u10).symm (z2 u11).symm

theorem fold_5 {p : PkD} {tz : Bool} (hz : tz = true ↔ p.tx = txN) (hk : p.kind = 5) (h : (bits .andNot .u16 (fillP p tz) (nmP p.kind) != 0) = false) : (fldsP p).foldl (fun d j => setF j p d) (pkZ p.kind) = p := by
  have e : nmP p.kind = 583 := by rw [hk]; decide
  rw [e] at h
  unfold fillP at h
  rw [am_583] at h
  simp only [Bool.or_eq_false_iff] at h
  obtain ⟨⟨⟨⟨⟨⟨u3, u4⟩, u5⟩, u7⟩, u8⟩, u10⟩, u11⟩ := h
  show (flN (nmP p.kind) 12).foldl _ _ = p
  rw [e, fl_583]
  simp only [List.foldl_cons, List.foldl_nil, setF, pkZ]
  exact pk_ext rfl rfl rfl rfl rfl rfl (z2 u3).symm (z2 u4).symm (z1 u5).1.symm (z1 u5).2.symm rfl rfl (u7).symm (u8).symm rfl (z3 u10).symm (z2 u11).symm

theorem fold_6 {p : PkD} {tz : Bool} (hz : tz = true ↔ p.tx = txN) (hk : p.kind = 6) (h : (bits .andNot .u16 (fillP p tz) (nmP p.kind) != 0) = false) : (fldsP p).foldl (fun d j => setF j p d) (pkZ p.kind) = p := by
  have e : nmP p.kind = 1287 := by rw [hk]; decide
  rw [e] at h
  unfold fillP at h
  rw [am_1287] at h
  simp only [Bool.or_eq_false_iff] at h
  obtain ⟨⟨⟨⟨⟨⟨u3, u4⟩, u5⟩, u6⟩, u7⟩, u9⟩, u11⟩ := h
  show (flN (nmP p.kind) 12).foldl _ _ = p
  rw [e, fl_1287]
  simp only [List.foldl_cons, List.foldl_nil, setF, pkZ]
  exact pk_ext rfl rfl rfl rfl rfl rfl (z2 u3).symm (z2 u4).symm (z1 u5).1.symm (z1 u5).2.symm (z1 u6).1.symm (z1 u6).2.symm (u7).symm rfl (hz.1 (z4 u9)).symm rfl (z2 u11).symm

theorem fold_7 {p : PkD} {tz : Bool} (hz : tz = true ↔ p.tx = txN) (hk : p.kind = 7) (h : (bits .andNot .u16 (fillP p tz) (nmP p.kind) != 0) = false) : (fldsP p).foldl (fun d j => setF j p d) (pkZ p.kind) = p := by
  have e : nmP p.kind = 47 := by rw [hk]; decide
  rw [e] at h
  unfold fillP at h
  rw [am_47] at h
  simp only [Bool.or_eq_false_iff] at h
  obtain ⟨⟨⟨⟨⟨⟨u4, u6⟩, u7⟩, u8⟩, u9⟩, u10⟩, u11⟩ := h
  show (flN (nmP p.kind) 12).foldl _ _ = p
  rw [e, fl_47]
  simp only [List.foldl_cons, List.foldl_nil, setF, pkZ]
  exact pk_ext rfl rfl rfl rfl rfl rfl rfl (z2 u4).symm rfl rfl (z1 u6).1.symm (z1 u6).2.symm (u7).symm (u8).symm (hz.1 (z4 u9)).symm (z3 u10).symm (z2 u11).symm

theorem fold_8 {p : PkD} {tz : Bool} (hz : tz = true ↔ p.tx = txN) (hk : p.kind = 8) (h : (bits .andNot .u16 (fillP p tz) (nmP p.kind) != 0) = false) : (fldsP p).foldl (fun d j => setF j p d) (pkZ p.kind) = p := by
  have e : nmP p.kind = 15 := by rw [hk]; decide
  rw [e] at h
  unfold fillP at h
  rw [am_15] at h
  simp only [Bool.or_eq_false_iff] at h
  obtain ⟨⟨⟨⟨⟨⟨⟨u4, u5⟩, u6⟩, u7⟩, u8⟩, u9⟩, u10⟩, u11⟩ := h
  show (flN (nmP p.kind) 12).foldl _ _ = p
  rw [e, fl_15]
  simp only [List.foldl_cons, List.foldl_nil, setF, pkZ]
  exact pk_ext rfl rfl rfl rfl rfl rfl rfl (z2 u4).symm (z1 u5).1.symm (z1 u5).2.symm (z1 u6).1.symm (z1 u6).2.symm (u7).symm (u8).symm (hz.1 (z4 u9)).symm (z3 u10).symm (z2 u11).symm

theorem fold_9 {p : PkD} {tz : Bool} (hz : tz = true ↔ p.tx = txN) (hk : p.kind = 9) (h : (bits .andNot .u16 (fillP p tz) (nmP p.kind) != 0) = false) : (fldsP p).foldl (fun d j => setF j p d) (pkZ p.kind) = p := by
  have e : nmP p.kind = 39 := by rw [hk]; decide
  rw [e] at h
  unfold fillP at h
  rw [am_39] at h
  simp only [Bool.or_eq_false_iff] at h
  obtain ⟨⟨⟨⟨⟨⟨⟨u3, u4⟩, u6⟩, u7⟩, u8⟩, u9⟩, u10⟩, u11⟩ := h
  show (flN (nmP p.kind) 12).foldl _ _ = p
  rw [e, fl_39]
  simp only [List.foldl_cons, List.foldl_nil, setF, pkZ]
  exact pk_ext rfl rfl rfl rfl rfl rfl (z2 u3).symm (z2 u4).symm rfl rfl (z1 u6).1.symm (z1 u6).2.symm (u7).symm (u8).symm (hz.1 (z4 u9)).symm (z3 u10).symm (z2 u11).symm

theorem fold_10 {p : PkD} {tz : Bool} (hz : tz = true ↔ p.tx = txN) (hk : p.kind = 10) (h : (bits .andNot .u16 (fillP p tz) (nmP p.kind) != 0) = false) : (fldsP p).foldl (fun d j => setF j p d) (pkZ p.kind) = p := by
  have e : nmP p.kind = 583 := by rw [hk]; decide
  rw [e] at h
  unfold fillP at h
  rw [am_583] at h
  simp only [Bool.or_eq_false_iff] at h
  obtain ⟨⟨⟨⟨⟨⟨u3, u4⟩, u5⟩, u7⟩, u8⟩, u10⟩, u11⟩ := h
  show (flN (nmP p.kind) 12).foldl _ _ = p
  rw [e, fl_583]
  simp only [List.foldl_cons, List.foldl_nil, setF, pkZ]
  exact pk_ext rfl rfl rfl rfl rfl rfl (z2 u3).symm (z2 u4).symm (z1 u5).1.symm (z1 u5).2.symm rfl rfl (u7).symm (u8).symm rfl (z3 u10).symm (z2 u11).symm

theorem fold_11 {p : PkD} {tz : Bool} (hz : tz = true ↔ p.tx = txN) (hk : p.kind = 11) (h : (bits .andNot .u16 (fillP p tz) (nmP p.kind) != 0) = false) : (fldsP p).foldl (fun d j => setF j p d) (pkZ p.kind) = p := by
  have e : nmP p.kind = 39 := by rw [hk]; decide
  rw [e] at h
  unfold fillP at h
  rw [am_39] at h
  simp only [Bool.or_eq_false_iff] at h
  obtain ⟨⟨⟨⟨⟨⟨⟨u3, u4⟩, u6⟩, u7⟩, u8⟩, u9⟩, u10⟩, u11⟩ := h
  show (flN (nmP p.kind) 12).foldl _ _ = p
  rw [e, fl_39]
  simp only [List.foldl_cons, List.foldl_nil, setF, pkZ]
  exact pk_ext rfl rfl rfl rfl rfl rfl (z2 u3).symm (z2 u4).symm rfl rfl (z1 u6).1.symm (z1 u6).2.symm (u7).symm (u8).symm (hz.1 (z4 u9)).symm (z3 u10).symm (z2 u11).symm

theorem fold_12 {p : PkD} {tz : Bool} (hz : tz = true ↔ p.tx = txN) (hk : p.kind = 12) (h : (bits .andNot .u16 (fillP p tz) (nmP p.kind) != 0) = false) : (fldsP p).foldl (fun d j => setF j p d) (pkZ p.kind) = p := by
  have e : nmP p.kind = 39 := by rw [hk]; decide
  rw [e] at h
  unfold fillP at h
  rw [am_39] at h
  simp only [Bool.or_eq_false_iff] at h
  obtain ⟨⟨⟨⟨⟨⟨⟨u3, u4⟩, u6⟩, u7⟩, u8⟩, u9⟩, u10⟩, u11⟩ := h
  show (flN (nmP p.kind) 12).foldl _ _ = p
  rw [e, fl_39]
  simp only [List.foldl_cons, List.foldl_nil, setF, pkZ]
  exact pk_ext rfl rfl rfl rfl rfl rfl (z2 u3).symm (z2 u4).symm rfl rfl (z1 u6).1.symm (z1 u6).2.symm (u7).symm (u8).symm (hz.1 (z4 u9)).symm (z3 u10).symm (z2 u11).symm

theorem fold_13 {p : PkD} {tz : Bool} (hz : tz = true ↔ p.tx = txN) (hk : p.kind = 13) (h : (bits .andNot .u16 (fillP p tz) (nmP p.kind) != 0) = false) : (fldsP p).foldl (fun d j => setF j p d) (pkZ p.kind) = p := by
  have e : nmP p.kind = 519 := by rw [hk]; decide
  rw [e] at h
  unfold fillP at h
  rw [am_519] at h
  simp only [Bool.or_eq_false_iff] at h
  obtain ⟨⟨⟨⟨⟨⟨⟨u3, u4⟩, u5⟩, u6⟩, u7⟩, u8⟩, u10⟩, u11⟩ := h
  show (flN (nmP p.kind) 12).foldl _ _ = p
  rw [e, fl_519]
  simp only [List.foldl_cons, List.foldl_nil, setF, pkZ]
  exact pk_ext rfl rfl rfl rfl rfl rfl (z2 u3).symm (z2 u4).symm (z1 u5).1.symm (z1 u5).2.symm (z1 u6).1.symm (z1 u6).2.symm (u7).symm (u8).symm rfl (z3 u10).symm (z2 u11).symm

theorem fold_14 {p : PkD} {tz : Bool} (hz : tz = true ↔ p.tx = txN) (hk : p.kind = 14) (h : (bits .andNot .u16 (fillP p tz) (nmP p.kind) != 0) = false) : (fldsP p).foldl (fun d j => setF j p d) (pkZ p.kind) = p := by
  have e : nmP p.kind = 2055 := by rw [hk]; decide
  rw [e] at h
  unfold fillP at h
  rw [am_2055] at h
  simp only [Bool.or_eq_false_iff] at h
  obtain ⟨⟨⟨⟨⟨⟨⟨u3, u4⟩, u5⟩, u6⟩, u7⟩, u8⟩, u9⟩, u10⟩ := h
  show (flN (nmP p.kind) 12).foldl _ _ = p
  rw [e, fl_2055]
  simp only [List.foldl_cons, List.foldl_nil, setF, pkZ]
  exact pk_ext rfl rfl rfl rfl rfl rfl (z2 u3).symm (z2 u4).symm (z1 u5).1.symm (z1 u5).2.symm (z1 u6).1.symm (z1 u6).2.symm (u7).symm (u8).symm (hz.1 (z4 u9)).symm (z3 u10).symm rfl

theorem pk_fold {p : PkD} {tz : Bool} (hz : tz = true ↔ p.tx = txN) (h : chkP p tz = true) : (fldsP p).foldl (fun d j => setF j p d) (pkZ p.kind) = p := by
  obtain ⟨⟨a, b⟩, c, _⟩ := chk_parts h
  have : p.kind = 1 ∨ p.kind = 2 ∨ p.kind = 3 ∨ p.kind = 4 ∨ p.kind = 5 ∨ p.kind = 6 ∨ p.kind = 7 ∨ p.kind = 8 ∨ p.kind = 9 ∨ p.kind = 10 ∨ p.kind = 11 ∨ p.kind = 12 ∨ p.kind = 13 ∨ p.kind = 14 := by omega
  rcases this with hk | hk | hk | hk | hk | hk | hk | hk | hk | hk | hk | hk | hk | hk
  · exact fold_1 hz hk c
  · exact fold_2 hz hk c
  · exact fold_3 hz hk c
  · exact fold_4 hz hk c
  · exact fold_5 hz hk c
  · exact fold_6 hz hk c
  · exact fold_7 hz hk c
  · exact fold_8 hz hk c
  · exact fold_9 hz hk c
  · exact fold_10 hz hk c
  · exact fold_11 hz hk c
  · exact fold_12 hz hk c
  · exact fold_13 hz hk c
  · exact fold_14 hz hk c

theorem len_1 {p : PkD} (hk : p.kind = 1) (h : ∀ j ∈ fldsP p, rgB j p = true) : (bodyP p).length ≤ 5000 := by
  have e : nmP p.kind = 9 := by rw [hk]; decide
  have ef : fldsP p = [0, 3] := by show flN (nmP p.kind) 12 = _; rw [e, fl_9]
  unfold bodyP
  rw [ef]
  simp only [List.flatMap_cons, List.flatMap_nil, List.length_append, List.length_cons, List.length_nil]
  have l0 : (fdB 0 p).length = 8 := rfl
  have l3 : (fdB 3 p).length = 4 := rfl
  omega

theorem len_2 {p : PkD} (hk : p.kind = 2) (h : ∀ j ∈ fldsP p, rgB j p = true) : (bodyP p).length ≤ 5000 := by
  have e : nmP p.kind = 15 := by rw [hk]; decide
  have ef : fldsP p = [0, 1, 2, 3] := by show flN (nmP p.kind) 12 = _; rw [e, fl_15]
  unfold bodyP
  rw [ef]
  simp only [List.flatMap_cons, List.flatMap_nil, List.length_append, List.length_cons, List.length_nil]
  have l0 : (fdB 0 p).length = 8 := rfl
  have l1 : (fdB 1 p).length = 8 := rfl
  have l2 : (fdB 2 p).length = 8 := rfl
  have l3 : (fdB 3 p).length = 4 := rfl
  omega

theorem len_3 {p : PkD} (hk : p.kind = 3) (h : ∀ j ∈ fldsP p, rgB j p = true) : (bodyP p).length ≤ 5000 := by
  have e : nmP p.kind = 191 := by rw [hk]; decide
  have ef : fldsP p = [0, 1, 2, 3, 4, 5, 7] := by show flN (nmP p.kind) 12 = _; rw [e, fl_191]
  unfold bodyP
  rw [ef]
  simp only [List.flatMap_cons, List.flatMap_nil, List.length_append, List.length_cons, List.length_nil]
  have l0 : (fdB 0 p).length = 8 := rfl
  have l1 : (fdB 1 p).length = 8 := rfl
  have l2 : (fdB 2 p).length = 8 := rfl
  have l3 : (fdB 3 p).length = 4 := rfl
  have l4 : (fdB 4 p).length = 4 := rfl
  have l5 : (fdB 5 p).length = 8 := rfl
  have l7 : (fdB 7 p).length = 1 := rfl
  omega

theorem len_4 {p : PkD} (hk : p.kind = 4) (h : ∀ j ∈ fldsP p, rgB j p = true) : (bodyP p).length ≤ 5000 := by
  have e : nmP p.kind = 39 := by rw [hk]; decide
  have ef : fldsP p = [0, 1, 2, 5] := by show flN (nmP p.kind) 12 = _; rw [e, fl_39]
  unfold bodyP
  rw [ef]
  simp only [List.flatMap_cons, List.flatMap_nil, List.length_append, List.length_cons, List.length_nil]
  have l0 : (fdB 0 p).length = 8 := rfl
  have l1 : (fdB 1 p).length = 8 := rfl
  have l2 : (fdB 2 p).length = 8 := rfl
  have l5 : (fdB 5 p).length = 8 := rfl
  omega

theorem len_5 {p : PkD} (hk : p.kind = 5) (h : ∀ j ∈ fldsP p, rgB j p = true) : (bodyP p).length ≤ 5000 := by
  have e : nmP p.kind = 583 := by rw [hk]; decide
  have ef : fldsP p = [0, 1, 2, 6, 9] := by show flN (nmP p.kind) 12 = _; rw [e, fl_583]
  have b9 := fdB_len 9 p (h 9 (by rw [ef]; decide))
  unfold bodyP
  rw [ef]
  simp only [List.flatMap_cons, List.flatMap_nil, List.length_append, List.length_cons, List.length_nil]
  have l0 : (fdB 0 p).length = 8 := rfl
  have l1 : (fdB 1 p).length = 8 := rfl
  have l2 : (fdB 2 p).length = 8 := rfl
  have l6 : (fdB 6 p).length = 8 := rfl
  omega

theorem len_6 {p : PkD} (hk : p.kind = 6) (h : ∀ j ∈ fldsP p, rgB j p = true) : (bodyP p).length ≤ 5000 := by
  have e : nmP p.kind = 1287 := by rw [hk]; decide
  have ef : fldsP p = [0, 1, 2, 8, 10] := by show flN (nmP p.kind) 12 = _; rw [e, fl_1287]
  have b10 := fdB_len 10 p (h 10 (by rw [ef]; decide))
  unfold bodyP
  rw [ef]
  simp only [List.flatMap_cons, List.flatMap_nil, List.length_append, List.length_cons, List.length_nil]
  have l0 : (fdB 0 p).length = 8 := rfl
  have l1 : (fdB 1 p).length = 8 := rfl
  have l2 : (fdB 2 p).length = 8 := rfl
  have l8 : (fdB 8 p).length = 1 := rfl
  omega

theorem len_7 {p : PkD} (hk : p.kind = 7) (h : ∀ j ∈ fldsP p, rgB j p = true) : (bodyP p).length ≤ 5000 := by
  have e : nmP p.kind = 47 := by rw [hk]; decide
  have ef : fldsP p = [0, 1, 2, 3, 5] := by show flN (nmP p.kind) 12 = _; rw [e, fl_47]
  unfold bodyP
  rw [ef]
  simp only [List.flatMap_cons, List.flatMap_nil, List.length_append, List.length_cons, List.length_nil]
  have l0 : (fdB 0 p).length = 8 := rfl
  have l1 : (fdB 1 p).length = 8 := rfl
  have l2 : (fdB 2 p).length = 8 := rfl
  have l3 : (fdB 3 p).length = 4 := rfl
  have l5 : (fdB 5 p).length = 8 := rfl
  omega

theorem len_8 {p : PkD} (hk : p.kind = 8) (h : ∀ j ∈ fldsP p, rgB j p = true) : (bodyP p).length ≤ 5000 := by
  have e : nmP p.kind = 15 := by rw [hk]; decide
  have ef : fldsP p = [0, 1, 2, 3] := by show flN (nmP p.kind) 12 = _; rw [e, fl_15]
  unfold bodyP
  rw [ef]
  simp only [List.flatMap_cons, List.flatMap_nil, List.length_append, List.length_cons, List.length_nil]
  have l0 : (fdB 0 p).length = 8 := rfl
  have l1 : (fdB 1 p).length = 8 := rfl
  have l2 : (fdB 2 p).length = 8 := rfl
  have l3 : (fdB 3 p).length = 4 := rfl
  omega

theorem len_9 {p : PkD} (hk : p.kind = 9) (h : ∀ j ∈ fldsP p, rgB j p = true) : (bodyP p).length ≤ 5000 := by
  have e : nmP p.kind = 39 := by rw [hk]; decide
  have ef : fldsP p = [0, 1, 2, 5] := by show flN (nmP p.kind) 12 = _; rw [e, fl_39]
  unfold bodyP
  rw [ef]
  simp only [List.flatMap_cons, List.flatMap_nil, List.length_append, List.length_cons, List.length_nil]
  have l0 : (fdB 0 p).length = 8 := rfl
  have l1 : (fdB 1 p).length = 8 := rfl
  have l2 : (fdB 2 p).length = 8 := rfl
  have l5 : (fdB 5 p).length = 8 := rfl
  omega

theorem len_10 {p : PkD} (hk : p.kind = 10) (h : ∀ j ∈ fldsP p, rgB j p = true) : (bodyP p).length ≤ 5000 := by
  have e : nmP p.kind = 583 := by rw [hk]; decide
  have ef : fldsP p = [0, 1, 2, 6, 9] := by show flN (nmP p.kind) 12 = _; rw [e, fl_583]
  have b9 := fdB_len 9 p (h 9 (by rw [ef]; decide))
  unfold bodyP
  rw [ef]
  simp only [List.flatMap_cons, List.flatMap_nil, List.length_append, List.length_cons, List.length_nil]
  have l0 : (fdB 0 p).length = 8 := rfl
  have l1 : (fdB 1 p).length = 8 := rfl
  have l2 : (fdB 2 p).length = 8 := rfl
  have l6 : (fdB 6 p).length = 8 := rfl
  omega

theorem len_11 {p : PkD} (hk : p.kind = 11) (h : ∀ j ∈ fldsP p, rgB j p = true) : (bodyP p).length ≤ 5000 := by
  have e : nmP p.kind = 39 := by rw [hk]; decide
  have ef : fldsP p = [0, 1, 2, 5] := by show flN (nmP p.kind) 12 = _; rw [e, fl_39]
  unfold bodyP
  rw [ef]
  simp only [List.flatMap_cons, List.flatMap_nil, List.length_append, List.length_cons, List.length_nil]
  have l0 : (fdB 0 p).length = 8 := rfl
  have l1 : (fdB 1 p).length = 8 := rfl
  have l2 : (fdB 2 p).length = 8 := rfl
  have l5 : (fdB 5 p).length = 8 := rfl
  omega

theorem len_12 {p : PkD} (hk : p.kind = 12) (h : ∀ j ∈ fldsP p, rgB j p = true) : (bodyP p).length ≤ 5000 := by
  have e : nmP p.kind = 39 := by rw [hk]; decide
  have ef : fldsP p = [0, 1, 2, 5] := by show flN (nmP p.kind) 12 = _; rw [e, fl_39]
  unfold bodyP
  rw [ef]
  simp only [List.flatMap_cons, List.flatMap_nil, List.length_append, List.length_cons, List.length_nil]
  have l0 : (fdB 0 p).length = 8 := rfl
  have l1 : (fdB 1 p).length = 8 := rfl
  have l2 : (fdB 2 p).length = 8 := rfl
  have l5 : (fdB 5 p).length = 8 := rfl
  omega

theorem len_13 {p : PkD} (hk : p.kind = 13) (h : ∀ j ∈ fldsP p, rgB j p = true) : (bodyP p).length ≤ 5000 := by
  have e : nmP p.kind = 519 := by rw [hk]; decide
  have ef : fldsP p = [0, 1, 2, 9] := by show flN (nmP p.kind) 12 = _; rw [e, fl_519]
  have b9 := fdB_len 9 p (h 9 (by rw [ef]; decide))
  unfold bodyP
  rw [ef]
  simp only [List.flatMap_cons, List.flatMap_nil, List.length_append, List.length_cons, List.length_nil]
  have l0 : (fdB 0 p).length = 8 := rfl
  have l1 : (fdB 1 p).length = 8 := rfl
  have l2 : (fdB 2 p).length = 8 := rfl
  omega

theorem len_14 {p : PkD} (hk : p.kind = 14) (h : ∀ j ∈ fldsP p, rgB j p = true) : (bodyP p).length ≤ 5000 := by
  have e : nmP p.kind = 2055 := by rw [hk]; decide
  have ef : fldsP p = [0, 1, 2, 11] := by show flN (nmP p.kind) 12 = _; rw [e, fl_2055]
  unfold bodyP
  rw [ef]
  simp only [List.flatMap_cons, List.flatMap_nil, List.length_append, List.length_cons, List.length_nil]
  have l0 : (fdB 0 p).length = 8 := rfl
  have l1 : (fdB 1 p).length = 8 := rfl
  have l2 : (fdB 2 p).length = 8 := rfl
  have l11 : (fdB 11 p).length = 8 := rfl
  omega

theorem body_le {p : PkD} {tz : Bool} (h : chkP p tz = true) : (bodyP p).length ≤ 5000 := by
  obtain ⟨⟨a, b⟩, _, c⟩ := chk_parts h
  have : p.kind = 1 ∨ p.kind = 2 ∨ p.kind = 3 ∨ p.kind = 4 ∨ p.kind = 5 ∨ p.kind = 6 ∨ p.kind = 7 ∨ p.kind = 8 ∨ p.kind = 9 ∨ p.kind = 10 ∨ p.kind = 11 ∨ p.kind = 12 ∨ p.kind = 13 ∨ p.kind = 14 := by omega
  rcases this with hk | hk | hk | hk | hk | hk | hk | hk | hk | hk | hk | hk | hk | hk
  · exact len_1 hk c
  · exact len_2 hk c
  · exact len_3 hk c
  · exact len_4 hk c
  · exact len_5 hk c
  · exact len_6 hk c
  · exact len_7 hk c
  · exact len_8 hk c
  · exact len_9 hk c
  · exact len_10 hk c
  · exact len_11 hk c
  · exact len_12 hk c
  · exact len_13 hk c
  · exact len_14 hk c

end Go.Proofs.YtochbjafdcbckaaGreatDoor
