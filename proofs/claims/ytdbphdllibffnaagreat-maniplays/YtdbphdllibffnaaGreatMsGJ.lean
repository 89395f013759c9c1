/- ManiPlays, walked. -/
import Derived.Test.YtdbphdllibffnaaGreatMsEJ
import Derived.Test.YtdbphdllibffnaaGreatMsFJ
import Derived.Test.YtdbphdllibffnaaGreatReBJ
import Derived.Test.YtdbphdllibffnaaGreatMaMJ
namespace Go.Proofs.YtdbphdllibffnaaGreat
open Go.RowKit Go.Shelf
set_option maxRecDepth 8000

theorem opMSize {o : OpM} : (Tryz.prog.info? 39).map (·.size) = some o.cells.length := by
  show _ = some 9
  kernel_rfl

/-- A thing of a script that came in. -/
theorem opM_at {w : World} {v : Value} {l : List OpM} {sa : Option Addr} {sc : Nat} (hl : SeesOpsM w w.heap.size v l) (hv : v = .slice sa l.length sc) (k : Nat) (hlt : k < l.length) : ∃ b off, sa = some ⟨b, off, none⟩ ∧ ∀ wx, Below w.heap.size w wx → wx.rangeAt b (off + k * 9) l[k].cells ∧ GoodOpM wx w.heap.size l[k] := by
  subst hv
  obtain ⟨⟨_, _, esl, _, _, h0 | ⟨b, off, e2, hb, hr⟩⟩, hgo⟩ := hl
  · rw [h0] at hlt; simp at hlt
  have e3 : sa = some ⟨b, off, none⟩ := by
    have := (Value.slice.inj esl).1
    rw [this]; exact e2
  have hrk : w.rangeAt b (off + k * 9) l[k].cells := hr k hlt
  have hg := hgo l[k] (List.getElem_mem hlt)
  exact ⟨b, off, e3, fun wx hbx => ⟨fun j x hj => cell_later (hrk j x hj) hbx (Nat.le_refl _), hg.kept (Below.kept hbx) (fun j hj e => by omega)⟩⟩

/-- What a look at both disks gives. -/
structure LkM (w : World) (p q : Nat) (PW : Bool) (DN : Int) (fs : List FiD) : Prop where
  on : ∀ m, Calls Tryz.prog 9 #[.pointer (some ⟨p, 0, none⟩)] (w.drewN m) fun e w' => e = .returned (.bool PW) ∧ w' = w.drewN m
  wr : ∀ m, Calls Tryz.prog 10 #[.pointer (some ⟨p, 0, none⟩)] (w.drewN m) fun e w' => e = .returned (.int .i64 DN) ∧ w' = w.drewN m
  im : ∀ m, Calls Tryz.prog 12 #[.pointer (some ⟨p, 0, none⟩)] (w.drewN m) fun e w' => ∃ v vs, e = .returned v ∧ ImgAt w' w.heap.size v fs vs ∧ Below w.heap.size w w'
  ri : ∀ W, Below w.heap.size w W → Calls Tryz.prog 13 #[.pointer (some ⟨q, 0, none⟩)] W fun e w' => ∃ v us, e = .returned v ∧ ImgAt w' W.heap.size v fs us ∧ Below W.heap.size W w'
  few : fs.length ≤ 64
  c2 : w.cell? ⟨q, 2, none⟩ = some (.bool PW)
  c5 : w.cell? ⟨q, 5, none⟩ = some (.int .i64 DN)

theorem lk_of {w0 w : World} {p q : Nat} {D : DkD} {R : RD} {k : Nat} (h : Both w0 w p q D R k) (hk : k ≤ 4611686018427387900) : LkM w p q R.power R.done D.files := by
  obtain ⟨fv, ms, rv, vs, hd, hr, hap, h4, h5⟩ := h.ex
  have hrd := h.rdOk (by omega)
  have hb : ∀ m, Below w.heap.size w (w.drewN m) := fun m => below_drewN (Below.refl _ _) m
  refine ⟨fun m => ?_, fun m => ?_, fun m => ?_, fun W hW => ?_, h.ok.few, hr.cells.2.2.1, hr.cells.2.2.2.2.2⟩
  · rw [h.play.on]; exact on_any (hd.later (hb m))
  · rw [h.play.done]; exact dWrites_any (hd.later (hb m))
  · refine (dImage_any (hd.later (hb m)) h.ok).mono ?_
    rintro e w' ⟨rfl, ⟨vs', hi⟩, hbl⟩
    exact ⟨_, vs', rfl, hi, (hb m).trans (hbl.mono (Nat.le_refl _))⟩
  · have h9 := refImage_any (hr.later hW) hrd
    rw [h.play.files] at h9
    exact h9

/-- The two cells of the document's disk that are looked at. -/
abbrev SeM (q : Nat) (PW : Bool) (DN : Int) (w' : World) : Prop := w'.cell? ⟨q, 2, none⟩ = some (.bool PW) ∧ w'.cell? ⟨q, 5, none⟩ = some (.int .i64 DN)

theorem SeM.later {q : Nat} {PW : Bool} {DN : Int} {w w' : World} (h : SeM q PW DN w) (hb : Below w.heap.size w w') : SeM q PW DN w' := ⟨cell_later h.1 hb (Nat.le_refl _), cell_later h.2 hb (Nat.le_refl _)⟩

section
variable {w : World} {p q : Nat} {PW : Bool} {DN : Int} {fs : List FiD}

theorem LkM.im1 (h : LkM w p q PW DN fs) : Calls Tryz.prog 12 #[.pointer (some ⟨p, 0, none⟩)] w.drew fun e w' => ∃ v, e = .returned v ∧ SeM q PW DN w' ∧ Hid (∃ vs, ImgAt w' w.heap.size v fs vs) ∧ Hid (Below w.heap.size w w') := by
  refine (h.im 1).mono ?_
  rintro e w' ⟨v, vs, rfl, hi, hb⟩
  exact ⟨v, rfl, SeM.later ⟨h.c2, h.c5⟩ hb, ⟨vs, hi⟩, hb⟩

theorem LkM.ri1 (h : LkM w p q PW DN fs) {W : World} (hW : Below w.heap.size w W) : Calls Tryz.prog 13 #[.pointer (some ⟨q, 0, none⟩)] W fun e w' => ∃ v, e = .returned v ∧ SeM q PW DN w' ∧ Hid (∃ us, ImgAt w' W.heap.size v fs us) ∧ Hid (Below W.heap.size W w') := by
  refine (h.ri W hW).mono ?_
  rintro e w' ⟨v, us, rfl, hi, hb⟩
  exact ⟨v, rfl, (SeM.later ⟨h.c2, h.c5⟩ hW).later hb, ⟨us, hi⟩, hb⟩

theorem LkM.eq1 (h : LkM w p q PW DN fs) {w7 w8 : World} {B1 B2 : Nat} {v7 v8 : Value} (i7 : ∃ vs, ImgAt w7 B1 v7 fs vs) (hb : Below w7.heap.size w7 w8) (i8 : ∃ us, ImgAt w8 B2 v8 fs us) (k : SeM q PW DN w8) : Calls Tryz.prog 11 #[v7, v8] w8 fun e w' => e = .returned (.bool true) ∧ SeM q PW DN w' ∧ Hid (Below w8.heap.size w8 w') := by
  obtain ⟨vs, i7⟩ := i7
  obtain ⟨us, i8⟩ := i8
  refine (eqFiles_like (i7.kept (Below.kept hb) (fun j e => .inr e)) i8 h.few).mono ?_
  rintro e w' ⟨rfl, n, rfl⟩
  exact ⟨rfl, k, below_drewN (Below.refl _ _) n⟩
end

set_option maxHeartbeats 4000000 in
theorem mplays_walk (room : Int) (v : Value) (l : List OpM) (w : World) (hl : SeesOpsM w w.heap.size v l) (hll : l.length ≤ 140737488355328) :
    Calls Tryz.prog 3 #[.int .i64 room, v] w fun r w' => r = .returned (.bool true) ∧ Below w.heap.size w w' := by
  have HY : Hid _ := longM_any hl hll
  obtain ⟨⟨sa, sc, rfl, hsc, hscm, _⟩, _⟩ := id hl
  unfold maxLen at hscm
  have HL : Hid (SeesOpsM w w.heap.size (.slice sa l.length sc) l) := hl
  have HB : Hid (bydM l = false → l.length < 2147483647 ∧ ∀ o ∈ l, o.p.length < 2147483647) := bydM_false
  generalize bydM l = bb at *
  clear hl
  cases bb
  rotate_left
  · go_enter Tryz.func3, Tryz.ntmps3
    go_wp2_with fail
    refine Calls.mono HY.out ?_
    rintro e w1 ⟨rfl, hb1⟩
    have H1 : Hid _ := hb1
    clear hb1
    go_wp2_with fail
    go_ret
    exact ⟨rfl, H1.out⟩
  obtain ⟨hl1, hl2⟩ := HB.out rfl
  have HL2 : Hid _ := hl2
  clear HB hl2
  go_enter Tryz.func3, Tryz.ntmps3
  go_wp2_with fail
  refine Calls.mono HY.out ?_
  rintro e w1 ⟨rfl, hb1⟩
  have H1 : Hid _ := hb1
  clear hb1 HY
  go_wp2_with fail
  refine (lives_m w1).mono ?_
  rintro e w2 ⟨rfl, hb2⟩
  have H2 : Hid (Below w.heap.size w w2) := Below.step H1.out hb2
  clear hb2 H1
  by_cases hq : 0 ≤ room ∧ room ≤ 16777216
  rotate_left
  · have HN : Hid _ := new_no room w2 hq
    have HN2 : Hid _ := refNew_no room w2 hq
    go_wp2_with fail
    refine Calls.mono HN.out ?_
    rintro e w3 ⟨rfl, hw3⟩
    subst w3
    go_wp2_with fail
    refine Calls.mono HN2.out ?_
    rintro e w3 ⟨rfl, hw3⟩
    subst w3
    go_wp2_with fail
    go_ret
    exact ⟨rfl, H2.out⟩
  have HN : Hid _ := new_yes room w2 hq
  go_wp2_with fail
  refine Calls.mono HN.out ?_
  rintro e w3 ⟨rfl, hw3⟩
  have HN2 : Hid _ := refNew_yes room w3 hq
  have HW3 : Hid _ := hw3
  clear hw3
  go_wp2_with fail
  refine Calls.mono HN2.out ?_
  rintro e w4 ⟨rfl, hw4⟩
  have hw3 := HW3.out
  have hs3 : w3.heap.size = w2.heap.size + 1 := by rw [hw3]; simp
  have HBO : Hid (Both w w4 w2.heap.size w3.heap.size (newD room) ⟨[], room, true, false, 0, 0⟩ 0 ∧ FB (newD room).files) := by
    have hb3 : Below w2.heap.size w2 w3 := by rw [hw3]; exact one_allocK _ _
    have hb4 : Below w3.heap.size w3 w4 := by rw [hw4]; exact one_allocK _ _
    have i1 : IsDk w3 w2.heap.size (.slice none 0 0) [] (newD room) := by rw [hw3]; exact isDk_new w2 room
    have i2 : IsRd w4 w3.heap.size (.slice none 0 0) [] ⟨[], room, true, false, 0, 0⟩ := by rw [hw4]; exact isRd_new w3 room
    have hs := H2.out.size
    refine ⟨⟨⟨_, _, _, _, i1.later hb4, i2, fun j hj hm => ?_, fun j hj => ?_, fun j hj => ?_⟩, dkOk_new room hq.1 hq.2, calm_new room, play_new room, by show (0 : Int) ≤ 9223372036854775807; decide, by simp, Below.step H2.out (Below.step hb3 hb4)⟩, fun f hf => by simp at hf⟩
    · simp [foot, Value.ownBlock] at hj
      simp [rfoot, Value.ownBlock] at hm
      omega
    · simp [foot, Value.ownBlock] at hj
      omega
    · simp [rfoot, Value.ownBlock] at hj
      omega
  clear hw3 hw4 HN HN2 H2 HW3
  obtain ⟨p, hp⟩ : ∃ p, p = w2.heap.size := ⟨_, rfl⟩
  obtain ⟨q, hq2⟩ : ∃ q, q = w3.heap.size := ⟨_, rfl⟩
  rw [← hp, ← hq2] at HBO
  rw [← hp, ← hq2]
  clear hp hq2 hs3
  go_wp2_with fail
  go_loopw [10] (fun vi wr => ∃ k : Nat, k ≤ l.length ∧ vi = .int .i64 k ∧ Hid (∃ D R, Both w wr p q D R (4 * k) ∧ FB D.files)) (fun vi _ => l.length - (intOf vi).toNat)
  case atStart => exact ⟨0, Nat.zero_le _, rfl, ⟨_, _, HBO.out⟩⟩
  case round =>
    obtain ⟨k, hk, rfl, HI⟩ := hrel
    obtain ⟨D, R, hB, hF⟩ := HI.out
    have HU : Hid _ := And.intro hB hF
    clear hB hF HI HBO
    by_cases hlt : k < l.length
    · obtain ⟨b, off, rfl, hop⟩ := opM_at HL.out rfl k hlt
      have hpl : l[k].p.length ≤ 100000000000 := by have := HL2.out l[k] (List.getElem_mem hlt); omega
      have hsz6 : (Tryz.prog.info? 39).map (·.size) = some l[k].cells.length := opMSize
      generalize l[k] = o at *
      have hr := (hop wr HU.out.1.bel).1
      have HO : Hid _ := stepM_any HU.out.1 HU.out.2 (by omega) o (hop wr HU.out.1.bel).2 hpl
      clear hop hpl
      go_wp2_with (refine wpList_load_mid rfl 39 _ rfl b (off + k * 9) rfl o.cells _ hr Tryz.underlying39 rfl hsz6 ?_)
      refine Calls.mono HO.out ?_
      rintro e w5 ⟨rfl, D5, R5, hB5, hF5⟩
      have HL5 : Hid (LkM w5 p q R5.power R5.done D5.files) := lk_of hB5 (by omega)
      have H5 : Hid (∀ W, Below w5.heap.size w5 W → ∃ D R, Both w W p q D R (4 * (k + 1)) ∧ FB D.files) := fun W hW => ⟨D5, R5, hB5.later hW, hF5⟩
      clear hB5 hF5 hr HO hsz6 HU
      generalize R5.power = PW at *
      generalize R5.done = DN at *
      generalize D5.files = fs at *
      have hpw : (PW != PW) = false := by simp
      have hdn : (DN != DN) = false := by simp
      go_upto_region 14 with fail
      have k0 : SeM q PW DN w5.drew := ⟨HL5.out.c2, HL5.out.c5⟩
      have HON : Hid (Calls Tryz.prog 9 #[.pointer (some ⟨p, 0, none⟩)] w5.drew fun e w' => e = .returned (.bool PW) ∧ w' = w5.drew) := HL5.out.on 1
      have HWR : Hid (Calls Tryz.prog 10 #[.pointer (some ⟨p, 0, none⟩)] w5.drew fun e w' => e = .returned (.int .i64 DN) ∧ w' = w5.drew) := HL5.out.wr 1
      have hlq : q < w5.heap.size := World.block_lt_of_cell? w5 _ HL5.out.c2
      go_region_held (fun w' => w'.cell? ⟨q, 2, none⟩ = some (.bool PW) ∧ w'.cell? ⟨q, 5, none⟩ = some (.int .i64 DN)) (first | exact k0 | exact k7 | exact k8 | exact k9) (first | (go_at_call 9; refine Calls.mono HON.out ?_; rintro e w6 ⟨rfl, rfl⟩) | (go_at_call 10; refine Calls.mono HWR.out ?_; rintro e w6 ⟨rfl, rfl⟩) | (go_at_call 12; refine (HL5.out.im1).mono ?_; rintro e w7 ⟨v7, rfl, k7, HI7, HB7⟩) | (go_at_call 13; refine (HL5.out.ri1 HB7.out).mono ?_; rintro e w8 ⟨v8, rfl, k8, HI8, HB8⟩) | (go_at_call 11; refine (HL5.out.eq1 HI7.out HB8.out HI8.out k8).mono ?_; rintro e w9 ⟨rfl, k9, HB9⟩))
      have HBE : Hid (∃ D R, Both w w9 p q D R (4 * (k + 1)) ∧ FB D.files) := H5.out w9 (Below.step HB7.out (Below.step HB8.out HB9.out))
      clear k0 k7 k8 k9 HB7 HB8 HB9 HI7 HON HWR H5 HL5
      go_wp2_with fail
      go_roundw
      case rel => exact ⟨k + 1, by omega, by go_num, HBE⟩
      case measure => simp [intOf]; omega
    · obtain rfl : k = l.length := by omega
      go_wp2_with fail
      go_ret
      exact ⟨rfl, HU.out.1.bel⟩

theorem mplays_walk2 (room : Int) (v : Value) (l : List OpM) (w : World) (hl : SeesOpsM w w.heap.size v l) (hll : l.length ≤ 140737488355328) (_ : -9223372036854775808 ≤ room ∧ room ≤ 9223372036854775807) :
    Calls Tryz.prog 3 #[.int .i64 room, v] w fun r w' => r = .returned (.bool true) ∧ Below w.heap.size w w' := mplays_walk room v l w hl hll
end Go.Proofs.YtdbphdllibffnaaGreat
