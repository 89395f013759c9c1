/- A disk's calls: Sync, Cut, Remove, Read. -/
import Derived.Test.YtjdigknhiopdeaaGreatDkIJ
namespace Go.Proofs.YtjdigknhiopdeaaGreat
open Go.RowKit Go.Shelf
set_option maxRecDepth 8000

/-- The file of a name, turned. -/
def updF (fs : List FiD) (n : ByteArray) (g : FiD → FiD) : List FiD := match fs[pl fs n]? with
  | some f => fs.set (pl fs n) (g f)
  | none => fs

def durF (f : FiD) : FiD := ⟨f.name, f.bytes, f.bytes.length⟩
/-- A write that is done: what it makes of the files. -/
def DkD.done (D : DkD) (fs : List FiD) : DkD := { D with files := fs, armed := max (D.armed - 1) (-1), writes := D.writes + 1 }

/-- A call that writes: refused; the power gone; done. -/
def DkD.act (D : DkD) (e : Int) (fs : List FiD) : Int × DkD := if e = 0 then (if D.armed = 0 then (23, D.off) else (0, D.done fs)) else (e, D)

theorem act_err {D : DkD} {e : Int} (h : e ≠ 0) (fs : List FiD) : D.act e fs = (e, D) := by unfold DkD.act; rw [if_neg h]
theorem act_off {D : DkD} (h : D.armed = 0) (fs : List FiD) : D.act 0 fs = (23, D.off) := by unfold DkD.act; rw [if_pos rfl, if_pos h]
theorem act_done {D : DkD} (h : D.armed ≠ 0) (fs : List FiD) : D.act 0 fs = (0, D.done fs) := by unfold DkD.act; rw [if_pos rfl, if_neg h]
theorem wr_off {D : DkD} (h : D.armed = 0) : D.wr = D.off := by unfold DkD.wr; rw [if_pos h]
theorem wr_done {D : DkD} (h : D.armed ≠ 0) : D.wr = D.done D.files := by unfold DkD.wr DkD.done; rw [if_neg h]

/-- What a call that writes gives. -/
abbrev ActTo (w : World) (p : Nat) (fv : Value) (ms : List FiM) (r : Int × DkD) (e : Ending) (w' : World) : Prop := e = .returned (.int .i64 r.1) ∧ ∃ fv' ms', DkTo w p fv ms w' r.2 fv' ms'

theorem Below.step {w w1 w2 : World} (h : Below w.heap.size w w1) (g : Below w1.heap.size w1 w2) : Below w.heap.size w w2 := h.trans (g.mono h.size)

set_option maxHeartbeats 1000000 in
theorem sync_any {w : World} {p : Nat} {fv : Value} {ms : List FiM} {D : DkD} (h : IsDk w p fv ms D) (ok : DkOk D) (hw : D.writes ≤ 4611686018427387904) (n : ByteArray) :
    Calls Tryz.prog 59 #[.pointer (some ⟨p, 0, none⟩), .string n] w (ActTo w p fv ms (D.act (D.errO n) (updF D.files n durF))) := by
  have HO : Hid _ := open_any h ok n
  have hl := lt_of_block h.row
  have HH : Hid (IsDk w p fv ms D ∧ DkOk D) := ⟨h, ok⟩
  obtain ⟨E, hE⟩ : ∃ E, E = D.errO n := ⟨_, rfl⟩
  rw [← hE] at HO ⊢
  obtain ⟨r, hr⟩ : ∃ r, r = D.act E (updF D.files n durF) := ⟨_, rfl⟩
  rw [← hr]
  have HRR : Hid _ := hr
  clear h ok hr
  by_cases he : E = 0
  · subst he
    have HE : Hid _ := errO_zero hE.symm
    clear hE
    go_enter Tryz.func59, Tryz.ntmps59
    go_wp2_with fail
    refine Calls.mono HO.out ?_
    rintro e w1 ⟨⟨q, rfl, hq⟩, hb1⟩
    obtain ⟨m, hm, rfl⟩ := hq (by trivial)
    have h1 : IsDk w1 p fv ms D := HH.out.1.later hb1
    have HW : Hid _ := dkWrite_any h1 HH.out.2.a0 HH.out.2.a1 HH.out.2.w0 hw
    have H1 : Hid (Below w.heap.size w w1 ∧ ms[pl D.files n]? = some m) := ⟨hb1, hm⟩
    have hl1 := lt_of_block h1.row
    clear HO hq hb1 hm h1
    by_cases ha : D.armed = 0
    · rw [if_pos ha, wr_off ha] at HW
      rw [act_off ha] at HRR
      clear ha
      go_wp2_with fail
      refine Calls.mono HW.out ?_
      rintro e w2 ⟨rfl, hw2⟩
      have H2 : Hid _ := hw2
      clear hw2 HW
      go_wp2_with fail
      go_ret
      exact ⟨by rw [HRR.out]; rfl, _, _, by rw [HRR.out]; exact DkTo.after H1.out.1 H2.out⟩
    · rw [if_neg ha, wr_done ha] at HW
      rw [act_done ha] at HRR
      clear ha
      go_wp2_with fail
      refine Calls.mono HW.out ?_
      rintro e w2 ⟨rfl, hw2⟩
      obtain ⟨f, hf⟩ : ∃ f, D.files[pl D.files n]? = some f := by
        obtain ⟨hlt, _⟩ := (hasF_iff _ _).1 HE.out.2.2
        exact ⟨_, List.getElem?_eq_getElem hlt⟩
      have hfm : FileAt w2 m f := hw2.is.file _ m f H1.out.2 hf
      obtain ⟨q0, q1, q2⟩ := fl_cells' hfm
      have fq : w2.frozen? ⟨m.q, 2, none⟩ = false := frozen_of_row w2 m.q 2 _ _ hfm.row
      have hlm := lt_of_block hfm.row
      obtain ⟨a, c, hv, _, _⟩ := own_shape hfm.own
      rw [hv] at q1
      have hndm := nodup_blks hw2.is.nd (List.mem_of_getElem? H1.out.2)
      have HR : Hid (DkTo w p fv ms (w2.setCell ⟨m.q, 2, none⟩ (.int .i64 f.bytes.length)) (D.done (updF D.files n durF)) fv (ms.set (pl D.files n) m)) := by
        have hk : Kept w2 (w2.setCell ⟨m.q, 2, none⟩ (.int .i64 f.bytes.length)) (fun k => k = m.q) := Kept.setCell (Kept.refl _ (fun k => k = m.q)) ⟨m.q, 2, none⟩ _ (fun _ => rfl)
        have hvq : ∀ k, m.v.ownBlock = some k → k ≠ m.q := fun k e e' => by
          have := (List.nodup_cons.1 hndm).1
          rw [e, e'] at this
          simp at this
        have ht : FlTo w2 m (w2.setCell ⟨m.q, 2, none⟩ (.int .i64 f.bytes.length)) m (durF f) := ⟨⟨heap_setK _ hfm.row, hfm.own.kept hk hvq⟩, rfl, hk.mono (fun k _ e => by rw [e]; exact blks_q m), fun k e => .inl e⟩
        have h3 := hw2.is.setFile H1.out.2 ht
        have e : updF D.files n durF = D.files.set (pl D.files n) (durF f) := by unfold updF; rw [hf]
        rw [e]
        exact DkTo.after H1.out.1 (hw2.trans h3)
      clear hw2 HW hf hfm q0 hv hndm HH HE H1
      go_wp2_with fail
      go_ret
      exact ⟨by rw [HRR.out]; rfl, _, _, by rw [HRR.out]; exact HR.out⟩
  · rw [act_err he] at HRR
    have hb : (E != 0) = true := by simpa using he
    clear he hE
    go_enter Tryz.func59, Tryz.ntmps59
    go_wp2_with fail
    refine Calls.mono HO.out ?_
    rintro e w1 ⟨⟨q, rfl, hq⟩, hb1⟩
    have H1 : Hid _ := hb1
    clear hb1 hq
    go_wp2_with fail
    go_ret
    exact ⟨by rw [HRR.out]; rfl, _, _, by rw [HRR.out]; exact (DkTo.refl HH.out.1).then H1.out⟩
set_option maxHeartbeats 1000000 in
theorem read_any {w : World} {p : Nat} {fv : Value} {ms : List FiM} {D : DkD} (h : IsDk w p fv ms D) (ok : DkOk D) (n : ByteArray) :
    Calls Tryz.prog 32 #[.pointer (some ⟨p, 0, none⟩), .string n] w fun e w' => (∃ v, e = .returned (.tuple #[v, .int .i64 (D.errO n)]) ∧ (D.errO n ≠ 0 → v = .slice none 0 0) ∧ (D.errO n = 0 → ∃ f, D.files[pl D.files n]? = some f ∧ Owns w' w.heap.size v f.bytes)) ∧ Below w.heap.size w w' := by
  have HO : Hid _ := open_any h ok n
  have hl := lt_of_block h.row
  have HH : Hid (IsDk w p fv ms D ∧ DkOk D) := ⟨h, ok⟩
  obtain ⟨E, hE⟩ : ∃ E, E = D.errO n := ⟨_, rfl⟩
  rw [← hE] at HO ⊢
  clear h ok
  by_cases he : E = 0
  · have HE : Hid _ := errO_zero (hE.symm.trans he)
    have hb : (E != 0) = false := by simpa using he
    have H0 : Hid _ := he
    clear hE he
    go_enter Tryz.func32, Tryz.ntmps32
    go_wp2_with fail
    refine Calls.mono HO.out ?_
    rintro e w1 ⟨⟨q, rfl, hq⟩, hb1⟩
    obtain ⟨m, hm, rfl⟩ := hq H0.out
    have h1 : IsDk w1 p fv ms D := HH.out.1.later hb1
    obtain ⟨f, hf⟩ : ∃ f, D.files[pl D.files n]? = some f := by
      obtain ⟨hlt, _⟩ := (hasF_iff _ _).1 HE.out.2.2
      exact ⟨_, List.getElem?_eq_getElem hlt⟩
    have hfm : FileAt w1 m f := h1.file _ m f hm hf
    have hsm : f.bytes.length ≤ 1000000000000 := by
      have := len_used (List.mem_of_getElem? hf)
      have := HH.out.2.fits
      have := HH.out.2.r1
      omega
    have HC : Hid _ := copied_any hfm hsm
    have hlm := lt_of_block hfm.row
    have H1 : Hid (Below w.heap.size w w1 ∧ D.files[pl D.files n]? = some f) := ⟨hb1, hf⟩
    clear HO hq hb1 hm h1 hf hfm HE HH hsm
    go_wp2_with fail
    refine Calls.mono HC.out ?_
    rintro e w2 ⟨rfl, ho, hb2⟩
    have H2 : Hid (_ ∧ _) := ⟨ho, hb2⟩
    clear ho hb2 HC
    go_wp2_with fail
    go_ret2
    exact ⟨⟨_, by rw [H0.out]; rfl, fun e => absurd H0.out e, fun _ => ⟨f, H1.out.2, owns_mono H2.out.1 H1.out.1.size⟩⟩, Below.step H1.out.1 H2.out.2⟩
  · have hb : (E != 0) = true := by simpa using he
    have HN : Hid _ := he
    clear he hE
    go_enter Tryz.func32, Tryz.ntmps32
    go_wp2_with fail
    refine Calls.mono HO.out ?_
    rintro e w1 ⟨⟨q, rfl, hq⟩, hb1⟩
    have H1 : Hid _ := hb1
    clear hb1 hq
    go_wp2_with fail
    go_ret2
    exact ⟨⟨_, rfl, fun _ => rfl, fun e => absurd e HN.out⟩, H1.out⟩

end Go.Proofs.YtjdigknhiopdeaaGreat
