/- A disk's calls: Sync, Cut, Remove, Read. -/
import Derived.Test.YtdhnbgeijfgfaaaGreatDoorDkIJ
namespace Go.Proofs.YtdhnbgeijfgfaaaGreatDoor
open Go.RowKit Go.Shelf
set_option maxRecDepth 8000

/-- The file of a name, turned. -/
def updF (fs : List FiD) (n : ByteArray) (g : FiD → FiD) : List FiD := match fs[pl fs n]? with
  | some f => fs.set (pl fs n) (g f)
  | none => fs

def durF (f : FiD) : FiD := ⟨f.name, f.bytes, f.bytes.length⟩
def cutF (k : Nat) (f : FiD) : FiD := ⟨f.name, f.bytes.take k, k⟩

/-- A write that is done: what it makes of the files. -/
def DkD.done (D : DkD) (fs : List FiD) : DkD := { D with files := fs, armed := max (D.armed - 1) (-1), writes := D.writes + 1 }

/-- A call that writes: refused; the power gone; done. -/
def DkD.act (D : DkD) (e : Int) (fs : List FiD) : Int × DkD := if e = 0 then (if D.armed = 0 then (23, D.off) else (0, D.done fs)) else (e, D)

theorem act_err {D : DkD} {e : Int} (h : e ≠ 0) (fs : List FiD) : D.act e fs = (e, D) := by unfold DkD.act; rw [if_neg h]
theorem act_off {D : DkD} (h : D.armed = 0) (fs : List FiD) : D.act 0 fs = (23, D.off) := by unfold DkD.act; rw [if_pos rfl, if_pos h]
theorem act_done {D : DkD} (h : D.armed ≠ 0) (fs : List FiD) : D.act 0 fs = (0, D.done fs) := by unfold DkD.act; rw [if_pos rfl, if_neg h]
theorem wr_off {D : DkD} (h : D.armed = 0) : D.wr = D.off := by unfold DkD.wr; rw [if_pos h]
theorem wr_done {D : DkD} (h : D.armed ≠ 0) : D.wr = D.done D.files := by unfold DkD.wr DkD.done; rw [if_neg h]

/-- What a call that writes gives. -/
abbrev ActTo (w : World) (p : Nat) (fv : Value) (ms : List FiM) (r : Int × DkD) (e : Ending) (w' : World) : Prop := e = .returned (.int .i64 r.1) ∧ ∃ fv' ms', DkTo w p fv ms w' r.2 fv' ms'

theorem Below.step {w w1 w2 : World} (h : Below w.heap.size w w1) (g : Below w1.heap.size w1 w2) : Below w.heap.size w w2 := h.trans (g.mono h.size)

set_option maxHeartbeats 1000000 in
theorem sync_any {w : World} {p : Nat} {fv : Value} {ms : List FiM} {D : DkD} (h : IsDk w p fv ms D) (ok : DkOk D) (hw : D.writes ≤ 4611686018427387904) (n : ByteArray) :
    Calls Tryz.prog 31 #[.pointer (some ⟨p, 0, none⟩), .string n] w (ActTo w p fv ms (D.act (D.errO n) (updF D.files n durF))) := by
  have HO : Hid _ := open_any h ok n
  have hl := lt_of_block h.row
  have HH : Hid (IsDk w p fv ms D ∧ DkOk D) := ⟨h, ok⟩
  obtain ⟨E, hE⟩ : ∃ E, E = D.errO n := ⟨_, rfl⟩
  rw [← hE] at HO ⊢
  obtain ⟨r, hr⟩ : ∃ r, r = D.act E (updF D.files n durF) := ⟨_, rfl⟩
  rw [← hr]
  have HRR : Hid _ := hr
  clear h ok hr
  by_cases he : E = 0
  · subst he
    have HE : Hid _ := errO_zero hE.symm
    clear hE
    go_enter Tryz.func31, Tryz.ntmps31
    go_wp2_with fail
    refine Calls.mono HO.out ?_
    rintro e w1 ⟨⟨q, rfl, hq⟩, hb1⟩
    obtain ⟨m, hm, rfl⟩ := hq (by trivial)
    have h1 : IsDk w1 p fv ms D := HH.out.1.later hb1
    have HW : Hid _ := dkWrite_any h1 HH.out.2.a0 HH.out.2.a1 HH.out.2.w0 hw
    have H1 : Hid (Below w.heap.size w w1 ∧ ms[pl D.files n]? = some m) := ⟨hb1, hm⟩
    have hl1 := lt_of_block h1.row
    clear HO hq hb1 hm h1
    by_cases ha : D.armed = 0
    · rw [if_pos ha, wr_off ha] at HW
      rw [act_off ha] at HRR
      clear ha
      go_wp2_with fail
      refine Calls.mono HW.out ?_
      rintro e w2 ⟨rfl, hw2⟩
      have H2 : Hid _ := hw2
      clear hw2 HW
      go_wp2_with fail
      go_ret
      exact ⟨by rw [HRR.out]; rfl, _, _, by rw [HRR.out]; exact DkTo.after H1.out.1 H2.out⟩
    · rw [if_neg ha, wr_done ha] at HW
      rw [act_done ha] at HRR
      clear ha
      go_wp2_with fail
      refine Calls.mono HW.out ?_
      rintro e w2 ⟨rfl, hw2⟩
      obtain ⟨f, hf⟩ : ∃ f, D.files[pl D.files n]? = some f := by
        obtain ⟨hlt, _⟩ := (hasF_iff _ _).1 HE.out.2.2
        exact ⟨_, List.getElem?_eq_getElem hlt⟩
      have hfm : FileAt w2 m f := hw2.is.file _ m f H1.out.2 hf
      obtain ⟨q0, q1, q2⟩ := fl_cells' hfm
      have fq : w2.frozen? ⟨m.q, 2, none⟩ = false := frozen_of_row w2 m.q 2 _ _ hfm.row
      have hlm := lt_of_block hfm.row
      obtain ⟨a, c, hv, _, _⟩ := own_shape hfm.own
      rw [hv] at q1
      have hndm := nodup_blks hw2.is.nd (List.mem_of_getElem? H1.out.2)
      have HR : Hid (DkTo w p fv ms (w2.setCell ⟨m.q, 2, none⟩ (.int .i64 f.bytes.length)) (D.done (updF D.files n durF)) fv (ms.set (pl D.files n) m)) := by
        have hk : Kept w2 (w2.setCell ⟨m.q, 2, none⟩ (.int .i64 f.bytes.length)) (fun k => k = m.q) := Kept.setCell (Kept.refl _ (fun k => k = m.q)) ⟨m.q, 2, none⟩ _ (fun _ => rfl)
        have hvq : ∀ k, m.v.ownBlock = some k → k ≠ m.q := fun k e e' => by
          have := (List.nodup_cons.1 hndm).1
          rw [e, e'] at this
          simp at this
        have ht : FlTo w2 m (w2.setCell ⟨m.q, 2, none⟩ (.int .i64 f.bytes.length)) m (durF f) := ⟨⟨heap_setK _ hfm.row, hfm.own.kept hk hvq⟩, rfl, hk.mono (fun k _ e => by rw [e]; exact blks_q m), fun k e => .inl e⟩
        have h3 := hw2.is.setFile H1.out.2 ht
        have e : updF D.files n durF = D.files.set (pl D.files n) (durF f) := by unfold updF; rw [hf]
        rw [e]
        exact DkTo.after H1.out.1 (hw2.trans h3)
      clear hw2 HW hf hfm q0 hv hndm HH HE H1
      go_wp2_with fail
      go_ret
      exact ⟨by rw [HRR.out]; rfl, _, _, by rw [HRR.out]; exact HR.out⟩
  · rw [act_err he] at HRR
    have hb : (E != 0) = true := by simpa using he
    clear he hE
    go_enter Tryz.func31, Tryz.ntmps31
    go_wp2_with fail
    refine Calls.mono HO.out ?_
    rintro e w1 ⟨⟨q, rfl, hq⟩, hb1⟩
    have H1 : Hid _ := hb1
    clear hb1 hq
    go_wp2_with fail
    go_ret
    exact ⟨by rw [HRR.out]; rfl, _, _, by rw [HRR.out]; exact (DkTo.refl HH.out.1).then H1.out⟩
set_option maxHeartbeats 1000000 in
theorem remove_any {w : World} {p : Nat} {fv : Value} {ms : List FiM} {D : DkD} (h : IsDk w p fv ms D) (ok : DkOk D) (hw : D.writes ≤ 4611686018427387904) (n : ByteArray) :
    Calls Tryz.prog 70 #[.pointer (some ⟨p, 0, none⟩), .string n] w (ActTo w p fv ms (D.act (D.errO n) (D.files.eraseIdx (dropI D.files n)))) := by
  have HO : Hid _ := open_any h ok n
  have hl := lt_of_block h.row
  have HH : Hid (IsDk w p fv ms D ∧ DkOk D) := ⟨h, ok⟩
  obtain ⟨E, hE⟩ : ∃ E, E = D.errO n := ⟨_, rfl⟩
  rw [← hE] at HO ⊢
  obtain ⟨r, hr⟩ : ∃ r, r = D.act E (D.files.eraseIdx (dropI D.files n)) := ⟨_, rfl⟩
  rw [← hr]
  have HRR : Hid _ := hr
  clear h ok hr
  by_cases he : E = 0
  · subst he
    have HE : Hid _ := errO_zero hE.symm
    clear hE
    go_enter Tryz.func70, Tryz.ntmps70
    go_wp2_with fail
    refine Calls.mono HO.out ?_
    rintro e w1 ⟨⟨q, rfl, hq⟩, hb1⟩
    obtain ⟨m, hm, rfl⟩ := hq (by trivial)
    have h1 : IsDk w1 p fv ms D := HH.out.1.later hb1
    have HW : Hid _ := dkWrite_any h1 HH.out.2.a0 HH.out.2.a1 HH.out.2.w0 hw
    have H1 : Hid (Below w.heap.size w w1 ∧ ms[pl D.files n]? = some m) := ⟨hb1, hm⟩
    have hl1 := lt_of_block h1.row
    clear HO hq hb1 hm h1
    by_cases ha : D.armed = 0
    · rw [if_pos ha, wr_off ha] at HW
      rw [act_off ha] at HRR
      clear ha
      go_wp2_with fail
      refine Calls.mono HW.out ?_
      rintro e w2 ⟨rfl, hw2⟩
      have H2 : Hid _ := hw2
      clear hw2 HW
      go_wp2_with fail
      go_ret
      exact ⟨by rw [HRR.out]; rfl, _, _, by rw [HRR.out]; exact DkTo.after H1.out.1 H2.out⟩
    · rw [if_neg ha, wr_done ha] at HW
      rw [act_done ha] at HRR
      clear ha
      go_wp2_with fail
      refine Calls.mono HW.out ?_
      rintro e w2 ⟨rfl, hw2⟩
      have HD : Hid _ := drop_any hw2.is HH.out.2.rise HH.out.2.few n
      have H2 : Hid _ := hw2
      have hl2 := lt_of_block hw2.is.row
      clear hw2 HW
      go_wp2_with fail
      refine Calls.mono HD.out ?_
      rintro e w3 ⟨rfl, fv3, hfb, hi3, hk3⟩
      have HR : Hid (DkTo w p fv ms w3 (D.done (D.files.eraseIdx (dropI D.files n))) fv3 (ms.eraseIdx (dropI D.files n))) := by
        refine DkTo.after H1.out.1 (H2.out.trans ⟨hi3, hk3.mono (fun k _ e => row_foot e), fun k hk => .inl ?_⟩)
        rw [foot_same hfb] at hk
        exact (foot_erase _).subset hk
      clear HD hfb hi3 hk3
      go_wp2_with fail
      go_ret
      exact ⟨by rw [HRR.out]; rfl, _, _, by rw [HRR.out]; exact HR.out⟩
  · rw [act_err he] at HRR
    have hb : (E != 0) = true := by simpa using he
    clear he hE
    go_enter Tryz.func70, Tryz.ntmps70
    go_wp2_with fail
    refine Calls.mono HO.out ?_
    rintro e w1 ⟨⟨q, rfl, hq⟩, hb1⟩
    have H1 : Hid _ := hb1
    clear hb1 hq
    go_wp2_with fail
    go_ret
    exact ⟨by rw [HRR.out]; rfl, _, _, by rw [HRR.out]; exact (DkTo.refl HH.out.1).then H1.out⟩

set_option maxHeartbeats 1000000 in
theorem read_any {w : World} {p : Nat} {fv : Value} {ms : List FiM} {D : DkD} (h : IsDk w p fv ms D) (ok : DkOk D) (n : ByteArray) :
    Calls Tryz.prog 34 #[.pointer (some ⟨p, 0, none⟩), .string n] w fun e w' => (∃ v, e = .returned (.tuple #[v, .int .i64 (D.errO n)]) ∧ (D.errO n ≠ 0 → v = .slice none 0 0) ∧ (D.errO n = 0 → ∃ f, D.files[pl D.files n]? = some f ∧ Owns w' w.heap.size v f.bytes)) ∧ Below w.heap.size w w' := by
  have HO : Hid _ := open_any h ok n
  have hl := lt_of_block h.row
  have HH : Hid (IsDk w p fv ms D ∧ DkOk D) := ⟨h, ok⟩
  obtain ⟨E, hE⟩ : ∃ E, E = D.errO n := ⟨_, rfl⟩
  rw [← hE] at HO ⊢
  clear h ok
  by_cases he : E = 0
  · have HE : Hid _ := errO_zero (hE.symm.trans he)
    have hb : (E != 0) = false := by simpa using he
    have H0 : Hid _ := he
    clear hE he
    go_enter Tryz.func34, Tryz.ntmps34
    go_wp2_with fail
    refine Calls.mono HO.out ?_
    rintro e w1 ⟨⟨q, rfl, hq⟩, hb1⟩
    obtain ⟨m, hm, rfl⟩ := hq H0.out
    have h1 : IsDk w1 p fv ms D := HH.out.1.later hb1
    obtain ⟨f, hf⟩ : ∃ f, D.files[pl D.files n]? = some f := by
      obtain ⟨hlt, _⟩ := (hasF_iff _ _).1 HE.out.2.2
      exact ⟨_, List.getElem?_eq_getElem hlt⟩
    have hfm : FileAt w1 m f := h1.file _ m f hm hf
    have hsm : f.bytes.length ≤ 1000000000000 := by
      have := len_used (List.mem_of_getElem? hf)
      have := HH.out.2.fits
      have := HH.out.2.r1
      omega
    have HC : Hid _ := copied_any hfm hsm
    have hlm := lt_of_block hfm.row
    have H1 : Hid (Below w.heap.size w w1 ∧ D.files[pl D.files n]? = some f) := ⟨hb1, hf⟩
    clear HO hq hb1 hm h1 hf hfm HE HH hsm
    go_wp2_with fail
    refine Calls.mono HC.out ?_
    rintro e w2 ⟨rfl, ho, hb2⟩
    have H2 : Hid (_ ∧ _) := ⟨ho, hb2⟩
    clear ho hb2 HC
    go_wp2_with fail
    go_ret2
    exact ⟨⟨_, by rw [H0.out]; rfl, fun e => absurd H0.out e, fun _ => ⟨f, H1.out.2, owns_mono H2.out.1 H1.out.1.size⟩⟩, Below.step H1.out.1 H2.out.2⟩
  · have hb : (E != 0) = true := by simpa using he
    have HN : Hid _ := he
    clear he hE
    go_enter Tryz.func34, Tryz.ntmps34
    go_wp2_with fail
    refine Calls.mono HO.out ?_
    rintro e w1 ⟨⟨q, rfl, hq⟩, hb1⟩
    have H1 : Hid _ := hb1
    clear hb1 hq
    go_wp2_with fail
    go_ret2
    exact ⟨⟨_, rfl, fun _ => rfl, fun e => absurd e HN.out⟩, H1.out⟩

/-- What Cut says ahead of its write. -/
def DkD.errC (D : DkD) (n : ByteArray) (k : Int) : Int := if D.errO n = 0 then (if 0 ≤ k ∧ k ≤ ((D.files[pl D.files n]?.map (·.bytes.length)).getD 0 : Nat) then 0 else 1) else D.errO n

set_option maxHeartbeats 1000000 in
theorem cut_any {w : World} {p : Nat} {fv : Value} {ms : List FiM} {D : DkD} (h : IsDk w p fv ms D) (ok : DkOk D) (hw : D.writes ≤ 4611686018427387904) (n : ByteArray) (k : Int) :
    Calls Tryz.prog 68 #[.pointer (some ⟨p, 0, none⟩), .string n, .int .i64 k] w (ActTo w p fv ms (D.act (D.errC n k) (updF D.files n (cutF k.toNat)))) := by
  have HO : Hid _ := open_any h ok n
  have hl := lt_of_block h.row
  have HH : Hid (IsDk w p fv ms D ∧ DkOk D) := ⟨h, ok⟩
  obtain ⟨E, hE⟩ : ∃ E, E = D.errO n := ⟨_, rfl⟩
  rw [← hE] at HO
  obtain ⟨r, hr⟩ : ∃ r, r = D.act (D.errC n k) (updF D.files n (cutF k.toNat)) := ⟨_, rfl⟩
  rw [← hr]
  have HRR : Hid _ := hr
  clear h ok hr
  by_cases he : E = 0
  · subst he
    have HE : Hid _ := errO_zero hE.symm
    have HE0 : Hid _ := hE.symm
    clear hE
    go_enter Tryz.func68, Tryz.ntmps68
    go_wp2_with fail
    refine Calls.mono HO.out ?_
    rintro e w1 ⟨⟨q, rfl, hq⟩, hb1⟩
    obtain ⟨m, hm, rfl⟩ := hq (by trivial)
    have h1 : IsDk w1 p fv ms D := HH.out.1.later hb1
    have HW : Hid _ := dkWrite_any h1 HH.out.2.a0 HH.out.2.a1 HH.out.2.w0 hw
    have H1 : Hid (Below w.heap.size w w1 ∧ ms[pl D.files n]? = some m ∧ IsDk w1 p fv ms D) := ⟨hb1, hm, h1⟩
    have hl1 := lt_of_block h1.row
    obtain ⟨f, hf⟩ : ∃ f, D.files[pl D.files n]? = some f := by
      obtain ⟨hlt, _⟩ := (hasF_iff _ _).1 HE.out.2.2
      exact ⟨_, List.getElem?_eq_getElem hlt⟩
    have hfm : FileAt w1 m f := h1.file _ m f hm hf
    obtain ⟨q0, q1, q2⟩ := fl_cells' hfm
    have hlm := lt_of_block hfm.row
    obtain ⟨a, c, hv, _, _⟩ := own_shape hfm.own
    rw [hv] at q1
    have HEC : Hid (D.errC n k = if 0 ≤ k ∧ k ≤ (f.bytes.length : Int) then 0 else 1) := by
      show _ = _
      unfold DkD.errC
      rw [if_pos HE0.out, hf]
      rfl
    have HF : Hid _ := hf
    clear HO hq hb1 hm h1 hf hfm hv
    by_cases hk : 0 ≤ k ∧ k ≤ (f.bytes.length : Int)
    · rw [if_pos hk] at HEC
      rw [HEC.out] at HRR
      have hd1 : decide (k < 0) = false := decide_eq_false (by omega)
      have hd2 : decide (k > (f.bytes.length : Int)) = false := decide_eq_false (by omega)
      by_cases ha : D.armed = 0
      · rw [if_pos ha, wr_off ha] at HW
        rw [act_off ha] at HRR
        clear ha
        go_wp2_with fail
        refine Calls.mono HW.out ?_
        rintro e w2 ⟨rfl, hw2⟩
        have H2 : Hid _ := hw2
        clear hw2 HW
        go_wp2_with fail
        go_ret
        exact ⟨by rw [HRR.out]; rfl, _, _, by rw [HRR.out]; exact DkTo.after H1.out.1 H2.out⟩
      · rw [if_neg ha, wr_done ha] at HW
        rw [act_done ha] at HRR
        clear ha
        go_wp2_with fail
        refine Calls.mono HW.out ?_
        rintro e w2 ⟨rfl, hw2⟩
        have hfm : FileAt w2 m f := hw2.is.file _ m f H1.out.2.1 HF.out
        have hndm := nodup_blks hw2.is.nd (List.mem_of_getElem? H1.out.2.1)
        have hvq : ∀ k, m.v.ownBlock = some k → k ≠ m.q := fun k e e' => by
          have := (List.nodup_cons.1 hndm).1
          rw [e, e'] at this
          simp at this
        have hC := fcut_any hfm hvq k.toNat (by omega)
        rw [show ((k.toNat : Nat) : Int) = k by omega] at hC
        have HC : Hid _ := hC
        have H2 : Hid _ := hw2
        clear hw2 HW hfm hndm hvq hC q0 q1 q2
        go_wp2_with fail
        refine Calls.mono HC.out ?_
        rintro e w3 ⟨rfl, v', ht, _⟩
        have HR : Hid (DkTo w p fv ms w3 (D.done (updF D.files n (cutF k.toNat))) fv (ms.set (pl D.files n) ⟨m.q, v'⟩)) := by
          have ht' : FlTo w2 m w3 ⟨m.q, v'⟩ (cutF k.toNat f) := by unfold cutF; rw [show ((k.toNat : Nat) : Int) = k by omega]; exact ht
          have h3 := H2.out.is.setFile H1.out.2.1 ht'
          have e : updF D.files n (cutF k.toNat) = D.files.set (pl D.files n) (cutF k.toNat f) := by unfold updF; rw [HF.out]
          rw [e]
          exact DkTo.after H1.out.1 (H2.out.trans h3)
        clear ht HC
        go_wp2_with fail
        go_ret
        exact ⟨by rw [HRR.out]; rfl, _, _, by rw [HRR.out]; exact HR.out⟩
    · rw [if_neg hk] at HEC
      rw [HEC.out, act_err (by decide)] at HRR
      have HR : Hid (DkTo w p fv ms w1 D fv ms) := (DkTo.refl HH.out.1).then H1.out.1
      clear HW HEC
      by_cases hk1 : k < 0
      · have hd1 : decide (k < 0) = true := decide_eq_true hk1
        go_wp2_with fail
        go_ret
        exact ⟨by rw [HRR.out]; rfl, _, _, by rw [HRR.out]; exact HR.out⟩
      · have hd1 : decide (k < 0) = false := decide_eq_false hk1
        have hd2 : decide (k > (f.bytes.length : Int)) = true := decide_eq_true (by omega)
        go_wp2_with fail
        go_ret
        exact ⟨by rw [HRR.out]; rfl, _, _, by rw [HRR.out]; exact HR.out⟩
  · have hec : D.errC n k = E := by unfold DkD.errC; rw [← hE, if_neg he]
    rw [hec, act_err he] at HRR
    have hb : (E != 0) = true := by simpa using he
    clear he hE hec
    go_enter Tryz.func68, Tryz.ntmps68
    go_wp2_with fail
    refine Calls.mono HO.out ?_
    rintro e w1 ⟨⟨q, rfl, hq⟩, hb1⟩
    have H1 : Hid _ := hb1
    clear hb1 hq
    go_wp2_with fail
    go_ret
    exact ⟨by rw [HRR.out]; rfl, _, _, by rw [HRR.out]; exact (DkTo.refl HH.out.1).then H1.out⟩

end Go.Proofs.YtdhnbgeijfgfaaaGreatDoor
