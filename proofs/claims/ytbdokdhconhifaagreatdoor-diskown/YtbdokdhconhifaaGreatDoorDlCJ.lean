/- The document's disk: Start. -/
import Derived.Test.YtbdokdhconhifaaGreatDoorRdXJ
import Derived.Deep.RegionHeld
import Derived.Test.YtbdokdhconhifaaGreatDoorDkTJ
import Derived.Deep.QuietTactic
import Derived.BigQuiet
import Derived.Test.YtbdokdhconhifaaGreatDoorDkYJ
namespace Go.Proofs.YtbdokdhconhifaaGreatDoor
open Go.RowKit Go.Shelf
set_option maxRecDepth 8000

end Go.Proofs.YtbdokdhconhifaaGreatDoor
/- The document's disk: a writing call of the law's; beside the program's. -/
namespace Go.Proofs.YtbdokdhconhifaaGreatDoor
open Go.RowKit Go.Shelf
set_option maxRecDepth 8000

def wantK (R : RD) (o : OpK) : Int × RD :=
  if o.kind = 1 then R.act (R.errA o.name o.p.length) (appF R.files o.name o.p)
  else if o.kind = 2 then R.act (R.errO o.name) (updF R.files o.name durF)
  else if o.kind = 3 then R.act (R.errC o.name o.n) (updF R.files o.name (cutF o.n.toNat))
  else if o.kind = 4 then R.act (R.errR o.name o.dest) (renF R.files o.name o.dest)
  else if o.kind = 5 then R.act (R.errO o.name) (R.files.eraseIdx (dropI R.files o.name))
  else (0, R)

/-- A writing call turns both alike. -/
theorem play_want {D : DkD} {R : RD} (h : Play D R) (hc : Calm D) (o : OpK) : (wantK R o).1 = (actK D o).1 ∧ Play (actK D o).2 (wantK R o).2 ∧ Calm (actK D o).2 := by
  have eO : ∀ n, R.errO n = D.errO n := fun n => by unfold RD.errO DkD.errO; rw [h.on, h.files]
  have eA : ∀ n k, R.errA n k = D.errA n k := fun n k => by unfold RD.errA DkD.errA; rw [h.on, h.files, h.room]
  have eC : ∀ n k, R.errC n k = D.errC n k := fun n k => by unfold RD.errC DkD.errC; rw [eO, h.files]
  have eR : ∀ a b, R.errR a b = D.errR a b := fun a b => by unfold RD.errR DkD.errR; rw [h.on, h.files]
  unfold wantK actK
  split
  · rw [eA, h.files]; exact play_act h hc _ _ (fun e => (errA_zero e).1)
  · split
    · rw [eO, h.files]; exact play_act h hc _ _ (fun e => (errO_zero e).1)
    · split
      · rw [eC, h.files]; exact play_act h hc _ _ (fun e => (errO_zero (errC_zero e).1).1)
      · split
        · rw [eR, h.files]; exact play_act h hc _ _ (fun e => (errR_zero e).1)
        · split
          · rw [eO, h.files]; exact play_act h hc _ _ (fun e => (errO_zero e).1)
          · exact ⟨rfl, h, hc⟩

theorem RD.write_more (R : RD) : R.write.2.more ≤ R.more := by
  unfold RD.write
  split
  · split
    · exact Int.le_refl _
    · show R.more - 1 ≤ R.more; omega
  · exact Int.le_refl _

theorem RD.act_more (R : RD) (e : Int) (fs : List FiD) : (R.act e fs).2.more ≤ R.more := by
  unfold RD.act
  split
  · split
    · exact R.write_more
    · exact R.write_more
  · exact Int.le_refl _

theorem wantK_more (R : RD) (o : OpK) : (wantK R o).2.more ≤ R.more := by
  unfold wantK
  repeat' split
  all_goals first | exact R.act_more _ _ | exact Int.le_refl _

/-- The program's disk and the document's, side by side. -/
structure Both (w0 w : World) (p q : Nat) (D : DkD) (R : RD) (k : Nat) : Prop where
  ex : ∃ fv ms rv vs, IsDk w p fv ms D ∧ IsRd w q rv vs R ∧ (∀ j ∈ foot p fv ms, j ∉ rfoot q rv vs) ∧ (∀ j ∈ foot p fv ms, w0.heap.size ≤ j) ∧ (∀ j ∈ rfoot q rv vs, w0.heap.size ≤ j)
  ok : DkOk D
  calm : Calm D
  play : Play D R
  more : R.more ≤ 9223372036854775807
  writes : D.writes ≤ k
  bel : Below w0.heap.size w0 w

theorem Both.rdOk {w0 w : World} {p q : Nat} {D : DkD} {R : RD} {k : Nat} (h : Both w0 w p q D R k) (hk : k ≤ 4611686018427387904) : RdOk R := by
  refine ⟨by rw [h.play.files]; exact h.ok.rise, by rw [h.play.files]; exact h.ok.few, ?_, fun e => ?_, h.more, by rw [h.play.done]; exact h.ok.w0, by rw [h.play.done]; have := h.writes; omega⟩
  · rw [h.play.files]
    have := h.ok.fits
    have := h.ok.r1
    omega
  · rcases h.play.arm with ⟨e1, _⟩ | ⟨_, _, e3⟩
    · rw [e1] at e; cases e
    · exact e3

theorem Both.later {w0 w w' : World} {p q : Nat} {D : DkD} {R : RD} {k : Nat} (h : Both w0 w p q D R k) (hb : Below w.heap.size w w') : Both w0 w' p q D R k := by
  obtain ⟨fv, ms, rv, vs, h1, h2, h3, h4, h5⟩ := h.ex
  exact ⟨⟨fv, ms, rv, vs, h1.later hb, h2.later hb, h3, h4, h5⟩, h.ok, h.calm, h.play, h.more, h.writes, Below.step h.bel hb⟩

end Go.Proofs.YtbdokdhconhifaaGreatDoor
/- One call of both disks: the law's step answers true, and both are alike behind it. -/
namespace Go.Proofs.YtbdokdhconhifaaGreatDoor
open Go.RowKit Go.Shelf
set_option maxRecDepth 8000

theorem both_dk {w w1 : World} {p q : Nat} {fv fv1 rv : Value} {ms ms1 : List FiM} {vs : List Value} {D1 : DkD} {R : RD} (hr : IsRd w q rv vs R) (hap : ∀ j ∈ foot p fv ms, j ∉ rfoot q rv vs) (ht : DkTo w p fv ms w1 D1 fv1 ms1) : IsRd w1 q rv vs R ∧ (∀ j ∈ foot p fv1 ms1, j ∉ rfoot q rv vs) := by
  refine ⟨hr.kept ht.kept (fun k hk e => hap k e hk), fun j hj hm => ?_⟩
  rcases ht.foot j hj with e | e
  · exact hap j e hm
  · have := hr.lt hm; omega

theorem both_rd {w w1 : World} {p q : Nat} {fv rv rv1 : Value} {ms : List FiM} {vs vs1 : List Value} {D : DkD} {R1 : RD} (hd : IsDk w p fv ms D) (hap : ∀ j ∈ foot p fv ms, j ∉ rfoot q rv vs) (ht : RdTo w q rv vs w1 R1 rv1 vs1) : IsDk w1 p fv ms D ∧ (∀ j ∈ foot p fv ms, j ∉ rfoot q rv1 vs1) := by
  refine ⟨hd.kept ht.kept (fun k hk e => hap k hk e), fun j hj hm => ?_⟩
  rcases ht.foot j hm with e | e
  · exact hap j hj e
  · have := hd.lt hj; omega

theorem Both.mono {w0 w : World} {p q : Nat} {D : DkD} {R : RD} {k k' : Nat} (h : Both w0 w p q D R k) (hk : k ≤ k') : Both w0 w p q D R k' := ⟨h.ex, h.ok, h.calm, h.play, h.more, by have := h.writes; omega, h.bel⟩

/-- Both are turned, one behind the other. -/
theorem Both.both {w0 w w1 w2 : World} {p q : Nat} {D D1 : DkD} {R R1 : RD} {k k1 : Nat} (h : Both w0 w p q D R k) {fv fv1 rv rv1 : Value} {ms ms1 : List FiM} {vs vs1 : List Value} (hr : IsRd w q rv vs R) (hap : ∀ j ∈ foot p fv ms, j ∉ rfoot q rv vs) (h4 : ∀ j ∈ foot p fv ms, w0.heap.size ≤ j) (h5 : ∀ j ∈ rfoot q rv vs, w0.heap.size ≤ j) (ht : DkTo w p fv ms w1 D1 fv1 ms1) (ht2 : RdTo w1 q rv vs w2 R1 rv1 vs1) (ok : DkOk D1) (hc : Calm D1) (hp : Play D1 R1) (hm : R1.more ≤ 9223372036854775807) (hw : D1.writes ≤ k1) : Both w0 w2 p q D1 R1 k1 := by
  obtain ⟨i1, a1⟩ := both_dk hr hap ht
  obtain ⟨i2, a2⟩ := both_rd ht.is a1 ht2
  have hs := h.bel.size
  have hs1 := ht.kept.size
  refine ⟨⟨fv1, ms1, rv1, vs1, i2, ht2.is, a2, fun j hj => ?_, fun j hj => ?_⟩, ok, hc, hp, hm, hw, ?_⟩
  · rcases ht.foot j hj with e | e
    · exact h4 j e
    · omega
  · rcases ht2.foot j hj with e | e
    · exact h5 j e
    · omega
  · exact (h.bel.trans (ht.kept.below hs (fun j e => h4 j e))).trans (ht2.kept.below (by omega) (fun j e => h5 j e))

end Go.Proofs.YtbdokdhconhifaaGreatDoor
/- Both disks alike: the law's alike answers true; the document's New. -/
namespace Go.Proofs.YtbdokdhconhifaaGreatDoor
open Go.RowKit Go.Shelf
set_option maxRecDepth 8000

set_option maxHeartbeats 4000000 in
theorem alike_any {w0 w : World} {p q : Nat} {D : DkD} {R : RD} {k : Nat} (h : Both w0 w p q D R k) (hk : k ≤ 4611686018427387900) :
    Calls Tryz.prog 21 #[.pointer (some ⟨p, 0, none⟩), .pointer (some ⟨q, 0, none⟩)] w fun e w' => e = .returned (.bool true) ∧ Below w.heap.size w w' := by
  obtain ⟨fv, ms, rv, vs, hd, hr, hap, h4, h5⟩ := h.ex
  have hrd := h.rdOk (by omega)
  have hlq := lt_of_block hr.row
  have hlp := lt_of_block hd.row
  have HX : Hid (IsDk w p fv ms D ∧ IsRd w q rv vs R ∧ DkOk D ∧ RdOk R ∧ Play D R) := ⟨hd, hr, h.ok, hrd, h.play⟩
  obtain ⟨fa, fc, hfv, hfc, hfm⟩ := img_shape hr.img
  have HFV : Hid _ := hfv
  clear h hd hr hap h4 h5 hrd hfv
  go_enter Tryz.func21, Tryz.ntmps21
  go_wp2_with fail
  refine Calls.mono (on_any HX.out.1) ?_
  rintro e w1 ⟨rfl, hw1⟩
  subst w1
  go_wp2_with fail
  refine Calls.mono (dUsed_any HX.out.1 HX.out.2.2.1) ?_
  rintro e w1 ⟨rfl, hw1⟩
  subst w1
  go_wp2_with fail
  refine Calls.mono (dWrites_any HX.out.1) ?_
  rintro e w1 ⟨rfl, hw1⟩
  subst w1
  go_wp2_with fail
  refine Calls.mono (dNames_any HX.out.1 HX.out.2.2.1) ?_
  rintro e w1 ⟨rfl, hn1, hb1⟩
  have HN1 : Hid _ := And.intro hn1 hb1
  clear hn1 hb1
  go_wp2_with fail
  refine Calls.mono (dImage_any (HX.out.1.later HN1.out.2) HX.out.2.2.1) ?_
  rintro e w2 ⟨rfl, ⟨us, hn2⟩, hb2⟩
  have HN2 : Hid _ := And.intro hn2 hb2
  have hb02 : Below w.heap.size w w2 := Below.step HN1.out.2 hb2
  have hr2 := HX.out.2.1.later hb02
  have x1 := hr2.cells.2.1
  have x2 := hr2.cells.2.2.1
  have x5 := hr2.cells.2.2.2.2.2
  have hl2 := lt_of_block hr2.row
  have HSU : Hid (Calls Tryz.prog 26 #[.slice fa R.files.length fc] w2 fun e w' => e = .returned (.int .i64 (usedD D.files)) ∧ w' = w2) := by
    have h7 := refSum_any hr2.img HX.out.2.2.2.1.few (by have := HX.out.2.2.2.1.used; omega)
    rw [HFV.out, HX.out.2.2.2.2.files] at h7
    rw [HX.out.2.2.2.2.files]
    exact h7
  rw [HFV.out] at x1
  rw [HX.out.2.2.2.2.on] at x2
  rw [HX.out.2.2.2.2.done] at x5
  have HR2 : Hid _ := And.intro hr2 hb02
  have HNM : Hid _ := refNames_any hr2 HX.out.2.2.2.1.few
  clear hn2 hb2 hb02 hr2
  go_wp2_with fail
  refine Calls.mono HSU.out ?_
  rintro e w3 ⟨rfl, hw3⟩
  subst w3
  go_wp2_with fail
  refine Calls.mono HNM.out ?_
  rintro e w3 ⟨v3, rfl, hn3, hb3⟩
  have HEQ : Hid (Calls Tryz.prog 18 #[.slice (some ⟨w.heap.size, 0, none⟩) D.files.length D.files.length, v3] w3 fun e w' => e = .returned (.bool true) ∧ ∃ n, w' = w3.drewN n) := by
    rw [HX.out.2.2.2.2.files] at hn3
    have hb13 := Below.step HN2.out.2 hb3
    have h7 := row_kept' HN1.out.1 (Below.kept hb13) (fun j e e' => by have := (HN1.out.1.lt j e).2; omega)
    exact eqNames_same h7 hn3 HX.out.2.2.1.few
  have HB3 : Hid _ := hb3
  clear hn3 hb3 HNM
  go_wp2_with fail
  refine Calls.mono HEQ.out ?_
  rintro e w4 ⟨rfl, m4, hw4⟩
  have hb24 : Below w2.heap.size w2 w4 := by rw [hw4]; exact below_drewN HB3.out m4
  have hr4 := HR2.out.1.later hb24
  have hl4 := lt_of_block hr4.row
  have HIM : Hid _ := refImage_any hr4 HX.out.2.2.2.1
  have HB4 : Hid _ := hb24
  clear hb24 hr4 hw4 HEQ
  go_wp2_with fail
  refine Calls.mono HIM.out ?_
  rintro e w5 ⟨v5, us5, rfl, hn5, hb5⟩
  have HEQ : Hid (Calls Tryz.prog 19 #[.slice (some ⟨w1.heap.size, 0, none⟩) D.files.length D.files.length, v5] w5 fun e w' => e = .returned (.bool true) ∧ ∃ n, w' = w5.drewN n) := by
    rw [HX.out.2.2.2.2.files] at hn5
    have h7 := HN2.out.1.kept (Below.kept (Below.step HB4.out hb5)) (fun j e => .inr e)
    exact eqFiles_like h7 hn5 HX.out.2.2.1.few
  have HB5 : Hid _ := hb5
  clear hn5 hb5 HIM
  go_wp2_with fail
  refine Calls.mono HEQ.out ?_
  rintro e w6 ⟨rfl, m6, hw6⟩
  have HBE : Hid (Below w.heap.size w w6) := by
    rw [hw6]
    exact below_drewN (Below.step HR2.out.2 (Below.step HB4.out HB5.out)) m6
  clear hw6 HEQ
  go_wp2_with fail
  go_ret
  exact ⟨rfl, HBE.out⟩

theorem isRd_new (w : World) (room : Int) : IsRd (w.alloc (.cells (rdQ (.slice none 0 0) ⟨[], room, true, false, 0, 0⟩) 83)) w.heap.size (.slice none 0 0) [] ⟨[], room, true, false, 0, 0⟩ :=
  ⟨heap_alloc_new w _, ⟨rfl, World.ownsRow_nil _ _ _ _, fun i u f h => by simp at h⟩, by simp [rfoot, Value.ownBlock]⟩

theorem refNew_yes (room : Int) (w : World) (hq : 0 ≤ room ∧ room ≤ 16777216) : Calls Tryz.prog 23 #[.int .i64 room] w fun e w' => e = .returned (.tuple #[.pointer (some ⟨w.heap.size, 0, none⟩), .int .i64 0]) ∧ w' = w.alloc (.cells (rdQ (.slice none 0 0) ⟨[], room, true, false, 0, 0⟩) 83) := by
  have h1 : decide (room < 0) = false := decide_eq_false (by omega)
  have h2 : decide (room > 16777216) = false := decide_eq_false (by omega)
  go_enter Tryz.func23, Tryz.ntmps23
  go_wp2_with fail
  go_ret2
  exact ⟨rfl, rfl⟩

theorem refNew_no (room : Int) (w : World) (hq : ¬ (0 ≤ room ∧ room ≤ 16777216)) : Calls Tryz.prog 23 #[.int .i64 room] w fun e w' => e = .returned (.tuple #[.pointer none, .int .i64 1]) ∧ w' = w := by
  by_cases h0 : room < 0
  · have h1 : decide (room < 0) = true := decide_eq_true h0
    go_enter Tryz.func23, Tryz.ntmps23
    go_wp2_with fail
    go_ret2
    exact ⟨rfl, rfl⟩
  · have h1 : decide (room < 0) = false := decide_eq_false h0
    have h2 : decide (room > 16777216) = true := decide_eq_true (by omega)
    go_enter Tryz.func23, Tryz.ntmps23
    go_wp2_with fail
    go_ret2
    exact ⟨rfl, rfl⟩
end Go.Proofs.YtbdokdhconhifaaGreatDoor

/- DiskPlays, walked. -/
namespace Go.Proofs.YtbdokdhconhifaaGreatDoor
open Go.RowKit Go.Shelf
set_option maxRecDepth 8000

/-- A call of a script that came in. -/
theorem op_at {w : World} {v : Value} {l : List OpK} {sa : Option Addr} {sc : Nat} (hl : SeesOpsK w w.heap.size v l) (hv : v = .slice sa l.length sc) (k : Nat) (hlt : k < l.length) : ∃ b off, sa = some ⟨b, off, none⟩ ∧ ∀ wx, Below w.heap.size w wx → wx.rangeAt b (off + k * 6) l[k].cells ∧ GoodOpK wx w.heap.size l[k] := by
  subst hv
  obtain ⟨⟨_, _, esl, _, _, h0 | ⟨b, off, e2, hb, hr⟩⟩, hgo⟩ := hl
  · rw [h0] at hlt; simp at hlt
  have e3 : sa = some ⟨b, off, none⟩ := by
    have := (Value.slice.inj esl).1
    rw [this]; exact e2
  have hrk : w.rangeAt b (off + k * 6) l[k].cells := hr k hlt
  have hg := hgo l[k] (List.getElem_mem hlt)
  exact ⟨b, off, e3, fun wx hbx => ⟨fun j x hj => cell_later (hrk j x hj) hbx (Nat.le_refl _), hg.kept (Below.kept hbx) (fun j hj e => by omega)⟩⟩

end Go.Proofs.YtbdokdhconhifaaGreatDoor
/- A file of an image taken onto a new disk. -/
namespace Go.Proofs.YtbdokdhconhifaaGreatDoor
open Go.RowKit Go.Shelf
set_option maxRecDepth 8000

set_option maxHeartbeats 1000000 in
theorem take_yes {w : World} {p : Nat} {fv : Value} {ms : List FiM} {D : DkD} (h : IsDk w p fv ms D) (ok : DkOk D) (f : FiD) (u : Value) (hu : Sees w u f.bytes) (hap : f.bytes ≠ [] → ∀ k, u.ownBlock = some k → k < w.heap.size ∧ k ∉ foot p fv ms) (hnm : isNm f.name = true) (hno : hasF D.files f.name = false) (hlf : D.files.length ≤ 63) (hd : 0 ≤ f.dur ∧ f.dur ≤ f.bytes.length) (hfit : (f.bytes.length : Int) ≤ D.room - usedD D.files) :
    Calls Tryz.prog 22 #[.pointer (some ⟨p, 0, none⟩), .agg #[.string f.name, u, .int .i64 f.dur]] w fun e w' => e = .returned (.int .i64 0) ∧ ∃ fv' ms', DkTo w p fv ms w' { D with files := insF D.files f } fv' ms' := by
  obtain ⟨V, eV⟩ : ∃ V, V = w.alloc (.cells #[.string f.name, u, .int .i64 f.dur] 71) := ⟨_, rfl⟩
  have hbV : Below w.heap.size w V := by rw [eV]; exact one_allocK _ _
  have hrow : V.heap[w.heap.size]? = some (.cells #[.string f.name, u, .int .i64 f.dur] 71 (0, 0)) := by rw [eV]; exact heap_alloc_new w _
  have hszV : w.heap.size < V.heap.size := lt_of_block hrow
  have d0 : V.cell? ⟨w.heap.size, 0, none⟩ = some (.string f.name) := cell_of_row V _ 0 _ _ _ hrow
  have d1 : V.cell? ⟨w.heap.size, 1, none⟩ = some u := cell_of_row V _ 1 _ _ _ hrow
  have d2 : V.cell? ⟨w.heap.size, 2, none⟩ = some (.int .i64 f.dur) := cell_of_row V _ 2 _ _ _ hrow
  have hV : IsDk V p fv ms D := h.later hbV
  have hp0 := lt_of_block h.row
  have hpV := lt_of_block hV.row
  have hus : usedD D.files ≤ 1000000000000 := by have := ok.fits; have := ok.r1; omega
  obtain ⟨ua, uc, huv, huc, hum, _⟩ := id hu
  unfold maxLen at hum
  have hfl : f.bytes.length ≤ 16777216 := by have := ok.r1; have := ok.fits; omega
  have HN : Hid (∀ wx : World, Calls Tryz.prog 64 #[.string f.name] wx fun e w' => e = .returned (.bool true) ∧ w' = wx) := fun wx => by
    have := dkName_any f.name wx
    rw [hnm] at this
    exact this
  have HF : Hid (∀ m, Calls Tryz.prog 65 #[.pointer (some ⟨p, 0, none⟩), .string f.name] (V.drewN m) fun e w' => e = .returned (.pointer none) ∧ w' = V.drewN m) := fun m => by
    have := find_any (hV.later (below_drewN (Below.refl _ _) m)) ok.rise ok.few f.name
    rw [hno, if_neg (by simp)] at this
    exact this
  have HC : Hid (∀ m, Calls Tryz.prog 66 #[.pointer (some ⟨p, 0, none⟩)] (V.drewN m) fun e w' => e = .returned (.bool false) ∧ w' = V.drewN m) := fun m => by
    have := crowded_any (hV.later (below_drewN (Below.refl _ _) m))
    rw [decide_eq_false (by omega)] at this
    exact this
  have hd0 : decide (f.dur < 0) = false := decide_eq_false (by omega)
  have hd1 : decide (f.dur > (f.bytes.length : Int)) = false := decide_eq_false (by omega)
  have HE : Hid _ := eV
  have HH : Hid (IsDk w p fv ms D ∧ DkOk D ∧ IsDk V p fv ms D ∧ Sees w u f.bytes ∧ (f.bytes ≠ [] → ∀ k, u.ownBlock = some k → k < w.heap.size ∧ k ∉ foot p fv ms) ∧ Below w.heap.size w V ∧ D.files.length ≤ 63 ∧ (f.bytes.length : Int) ≤ D.room - usedD D.files ∧ usedD D.files ≤ 1000000000000) := ⟨h, ok, hV, hu, hap, hbV, hlf, hfit, hus⟩
  subst huv
  clear h ok hV hu hap hbV hlf hfit hus hnm hno eV hrow hd
  go_enter Tryz.func22, Tryz.ntmps22
  go_upto_region 1 with fail
  rw [← HE.out]
  go_quiet ((first | (go_at_call 64; exact Calls.quiet_of_same (HN.out _)) | (go_at_call 65; exact Calls.quiet_of_same (HF.out _)) | (go_at_call 66; exact Calls.quiet_of_same (HC.out _))))
  obtain ⟨V1, hV1⟩ : ∃ V1, V1 = V.drewN nq := ⟨_, rfl⟩
  rw [← hV1]
  have hb1 : Below V.heap.size V V1 := by rw [hV1]; exact below_drewN (Below.refl _ _) _
  have d0' : V1.cell? ⟨w.heap.size, 0, none⟩ = some (.string f.name) := by rw [hV1]; exact d0
  have d1' : V1.cell? ⟨w.heap.size, 1, none⟩ = some (.slice ua f.bytes.length uc) := by rw [hV1]; exact d1
  have d2' : V1.cell? ⟨w.heap.size, 2, none⟩ = some (.int .i64 f.dur) := by rw [hV1]; exact d2
  have hs1 : w.heap.size < V1.heap.size := Nat.lt_of_lt_of_le hszV hb1.size
  have h1 : IsDk V1 p fv ms D := HH.out.2.2.1.later hb1
  have hp1 := lt_of_block h1.row
  have hft := fits_any h1 HH.out.2.1.few HH.out.2.2.2.2.2.2.2.2 HH.out.2.1.r0 (by have := HH.out.2.1.r1; omega) f.bytes.length
  rw [decide_eq_true HH.out.2.2.2.2.2.2.2.1] at hft
  have HT : Hid _ := hft
  have H1 : Hid (IsDk V1 p fv ms D ∧ Below w.heap.size w V1) := ⟨h1, Below.step HH.out.2.2.2.2.2.1 hb1⟩
  clear hft h1 hb1 hV1 d0 d1 d2 HN HF HC
  go_wp2_with fail
  refine Calls.mono HT.out ?_
  rintro e w2 ⟨rfl, hw2⟩
  have hb2 : Below V1.heap.size V1 w2 := by rw [hw2]; exact below_drewN (Below.refl _ _) 1
  have e0 : w2.cell? ⟨w.heap.size, 0, none⟩ = some (.string f.name) := cell_later d0' hb2 (Nat.le_refl _)
  have e1 : w2.cell? ⟨w.heap.size, 1, none⟩ = some (.slice ua f.bytes.length uc) := cell_later d1' hb2 (Nat.le_refl _)
  have e2 : w2.cell? ⟨w.heap.size, 2, none⟩ = some (.int .i64 f.dur) := cell_later d2' hb2 (Nat.le_refl _)
  have h2 : IsDk w2.drew p fv ms D := (H1.out.1.later hb2).later (below_drewN (Below.refl _ _) 1)
  have hp2 : p < w2.heap.size := Nat.lt_of_lt_of_le hp1 hb2.size
  have hs2 : w.heap.size < w2.heap.size := Nat.lt_of_lt_of_le hs1 hb2.size
  have hb2d : Below w.heap.size w w2.drew := Below.step (Below.step H1.out.2 hb2) (below_drewN (Below.refl _ _) 1)
  have k0 : w2.drew.cell? ⟨w.heap.size, 0, none⟩ = some (.string f.name) := e0
  have hxf : w.heap.size ∉ foot p fv ms := fun e => by have := HH.out.1.lt e; omega
  have HA : Hid (Calls Tryz.prog 68 #[.pointer (some ⟨p, 0, none⟩), .string f.name] w2.drew fun e w' => e = .returned (.pointer (some ⟨w2.heap.size, 0, none⟩)) ∧ Hid (∃ fv', DkTo w2.drew p fv ms w' { D with files := insF D.files ⟨f.name, [], 0⟩ } fv' (ms.take (pl D.files f.name) ++ ⟨w2.heap.size, .slice none 0 0⟩ :: ms.drop (pl D.files f.name))) ∧ w'.cell? ⟨w.heap.size, 0, none⟩ = some (.string f.name) ∧ w'.cell? ⟨w.heap.size, 1, none⟩ = some (.slice ua f.bytes.length uc) ∧ w'.cell? ⟨w.heap.size, 2, none⟩ = some (.int .i64 f.dur)) := by
    refine (dkAdd_any h2 HH.out.2.1.rise HH.out.2.2.2.2.2.2.1 f.name).mono ?_
    rintro e w3 ⟨rfl, fv3, ht3⟩
    have hc : ∀ j x, w2.cell? ⟨w.heap.size, j, none⟩ = some x → w3.cell? ⟨w.heap.size, j, none⟩ = some x := fun j x hj => by
      have hj' : w2.drew.cell? ⟨w.heap.size, j, none⟩ = some x := hj
      rw [World.cell?_of_block (ht3.kept.block w.heap.size (World.block_lt_of_cell? w2.drew ⟨w.heap.size, j, none⟩ hj') hxf)]
      exact hj'
    exact ⟨rfl, ⟨fv3, ht3⟩, hc _ _ e0, hc _ _ e1, hc _ _ e2⟩
  have H2 : Hid _ := hb2d
  clear hw2 hb2 h2 hb2d HT d0' d1' d2'
  go_upto_region 7 with fail
  go_region_held (fun w' => w'.cell? ⟨w.heap.size, 0, none⟩ = some (.string f.name)) (first | exact k0 | exact k1) (first | (go_at_call 68; refine HA.out.mono ?_; rintro e w3 ⟨rfl, H3, k1, k2, k3⟩))
  obtain ⟨fv3, ht3⟩ := H3.out
  have hP : pl D.files f.name ≤ ms.length := by rw [HH.out.1.len]; exact pl_le _ _
  have hPf : pl D.files f.name ≤ D.files.length := pl_le _ _
  have hm3 : (ms.take (pl D.files f.name) ++ ⟨w2.heap.size, .slice none 0 0⟩ :: ms.drop (pl D.files f.name))[pl D.files f.name]? = some (⟨w2.heap.size, .slice none 0 0⟩ : FiM) := by rw [getElem?_ins _ _ _ _ hP, if_neg (by omega), if_pos rfl]
  have hf3 : (insF D.files ⟨f.name, [], 0⟩)[pl D.files f.name]? = some (⟨f.name, [], 0⟩ : FiD) := by unfold insF; rw [getElem?_ins _ _ _ _ hPf, if_neg (by omega), if_pos rfl]
  have hfm : FileAt w3 ⟨w2.heap.size, .slice none 0 0⟩ ⟨f.name, [], 0⟩ := ht3.is.file _ _ _ hm3 hf3
  have hk3 : Kept w w3 (· ∈ foot p fv ms) := (DkTo.after H2.out ht3).kept
  have hP2 := fappend_any hfm (fun k e => by cases e) (.slice ua f.bytes.length uc) f.bytes (HH.out.2.2.2.1.keptN hk3 (fun hy k e => (HH.out.2.2.2.2.1 hy k e).2)) (fun hy k e e' => by
    simp [FiM.blks, Value.ownBlock] at e'
    have := (HH.out.2.2.2.2.1 hy k e).1
    omega) (by simp; omega)
  have HP : Hid _ := hP2
  have HT3 : Hid _ := ht3
  have HM3 : Hid _ := And.intro hm3 (And.intro hP hPf)
  have hlm : w2.heap.size < w3.heap.size := lt_of_block hfm.row
  have hs3 : w.heap.size < w3.heap.size := Nat.lt_of_lt_of_le (Nat.lt_trans hs2 hlm) (Nat.le_refl _)
  clear ht3 hP2 hfm hm3 hf3 hk3 hP hPf H3 HA
  go_wp2_with fail
  refine Calls.mono HP.out ?_
  rintro e w4 ⟨rfl, v', ht⟩
  have h4 := HT3.out.is.setFile HM3.out.1 ht
  have hm4 : ((ms.take (pl D.files f.name) ++ ⟨w2.heap.size, .slice none 0 0⟩ :: ms.drop (pl D.files f.name)).set (pl D.files f.name) ⟨w2.heap.size, v'⟩)[pl D.files f.name]? = some (⟨w2.heap.size, v'⟩ : FiM) := by
    rw [List.getElem?_set, if_pos rfl, if_pos (List.getElem?_eq_some_iff.1 HM3.out.1).1]
  have hfm4 : FileAt w4 ⟨w2.heap.size, v'⟩ ⟨f.name, [] ++ f.bytes, 0⟩ := ht.is
  obtain ⟨q0, q1, q2⟩ := fl_cells' hfm4
  have fq : w4.frozen? ⟨w2.heap.size, 2, none⟩ = false := frozen_of_row w4 _ 2 _ _ hfm4.row
  have hl4 : w2.heap.size < w4.heap.size := lt_of_block hfm4.row
  have hs4 : w.heap.size < w4.heap.size := Nat.lt_trans hs2 hl4
  have c4 : w4.cell? ⟨w.heap.size, 2, none⟩ = some (.int .i64 f.dur) := by
    rw [World.cell?_of_block (ht.kept.block w.heap.size (World.block_lt_of_cell? w3 ⟨w.heap.size, 2, none⟩ k3) (fun e => by simp [FiM.blks, Value.ownBlock] at e; omega))]
    exact k3
  have hndm := nodup_blks h4.is.nd (List.mem_of_getElem? hm4)
  have HR : Hid (∃ fv' ms', DkTo w p fv ms (w4.setCell ⟨w2.heap.size, 2, none⟩ (.int .i64 f.dur)) { D with files := insF D.files f } fv' ms') := by
    have hk : Kept w4 (w4.setCell ⟨w2.heap.size, 2, none⟩ (.int .i64 f.dur)) (fun k => k = w2.heap.size) := Kept.setCell (Kept.refl _ (fun k => k = w2.heap.size)) ⟨w2.heap.size, 2, none⟩ _ (fun _ => rfl)
    have hvq : ∀ k, v'.ownBlock = some k → k ≠ w2.heap.size := fun k e e' => by
      have := (List.nodup_cons.1 hndm).1
      rw [show (⟨w2.heap.size, v'⟩ : FiM).v.ownBlock = some k from e, e'] at this
      simp at this
    have ht5 : FlTo w4 ⟨w2.heap.size, v'⟩ (w4.setCell ⟨w2.heap.size, 2, none⟩ (.int .i64 f.dur)) ⟨w2.heap.size, v'⟩ ⟨f.name, [] ++ f.bytes, f.dur⟩ := ⟨⟨heap_setK _ hfm4.row, hfm4.own.kept hk hvq⟩, rfl, hk.mono (fun k _ e => by rw [e]; exact blks_q _), fun k e => .inl e⟩
    have h5 := h4.is.setFile hm4 ht5
    have e : ((insF D.files ⟨f.name, [], 0⟩).set (pl D.files f.name) ⟨f.name, [] ++ f.bytes, 0⟩).set (pl D.files f.name) ⟨f.name, [] ++ f.bytes, f.dur⟩ = insF D.files f := by
      rw [List.set_set]
      exact ins_set _ _ _ _ HM3.out.2.2
    have h6 := h5
    simp only at h6
    rw [e] at h6
    exact ⟨_, _, DkTo.after H2.out (HT3.out.trans (h4.trans h6))⟩
  clear ht h4 hm4 hfm4 q0 q1 hndm HP HT3 HM3
  go_wp2_with fail
  go_ret
  exact ⟨rfl, HR.out⟩
end Go.Proofs.YtbdokdhconhifaaGreatDoor
