/- Too many files? (lagoonlaw02.files.) -/
import Derived.Test.YtbdokdhconhifaaGreatDoorDlCJ
import Derived.Test.YtbdokdhconhifaaGreatDoorReDJ
import Derived.Test.YtbdokdhconhifaaGreatDoorDoCJ
namespace Go.Proofs.YtbdokdhconhifaaGreatDoor
open Go.RowKit Go.Shelf
set_option maxRecDepth 8000

def flSz (o : FlK) : Nat := o.p.length + o.name.size
def flsSz : List FlK → Nat
  | [] => 0
  | o :: l => flSz o + flsSz l

theorem flsSz_append (a b : List FlK) : flsSz (a ++ b) = flsSz a + flsSz b := by
  induction a with
  | nil => simp [flsSz]
  | cons x l ih => simp [flsSz, ih]; omega

theorem flsSz_next {l : List FlK} {k : Nat} (h : k < l.length) : flsSz (l.take (k + 1)) = flsSz (l.take k) + flSz l[k] := by
  rw [List.take_succ_eq_append_getElem h, flsSz_append]; simp [flsSz]
theorem flsSz_mem {l : List FlK} {o : FlK} (h : o ∈ l) : flSz o ≤ flsSz l := by
  induction l with
  | nil => simp at h
  | cons x l ih =>
    rcases List.mem_cons.1 h with e | e
    · subst e; simp [flsSz]
    · have := ih e; simp [flsSz]; omega
theorem flsSz_take (l : List FlK) (k : Nat) : flsSz (l.take k) ≤ flsSz l := by
  have : flsSz (l.take k ++ l.drop k) = flsSz (l.take k) + flsSz (l.drop k) := flsSz_append _ _
  rw [List.take_append_drop] at this
  omega

def fbd (l : List FlK) : Bool := decide (2147483647 ≤ l.length + flsSz l)
theorem fbd_false {l : List FlK} (h : fbd l = false) : l.length < 2147483647 ∧ ∀ o ∈ l, o.p.length < 2147483647 := by
  have h1 := of_decide_eq_false h
  refine ⟨by omega, fun o ho => ?_⟩
  have := flsSz_mem ho
  unfold flSz at this
  omega

set_option maxHeartbeats 1000000 in
theorem files_any {w : World} {n : Nat} {v : Value} {l : List FlK} (h : SeesFls w n v l) (hll : l.length ≤ 140737488355328) :
    Calls Tryz.prog 4 #[v] w fun e w' => e = .returned (.bool (fbd l)) ∧ Below w.heap.size w w' := by
  obtain ⟨bb, hbb⟩ : ∃ bb, bb = fbd l := ⟨_, rfl⟩
  rw [← hbb]
  have HBB : Hid _ := hbb
  clear hbb
  obtain ⟨⟨a, c, rfl, h1, h2, h3⟩, h4⟩ := h
  unfold maxLen at h2
  have H3 : Hid _ := h3
  have H4 : Hid _ := h4
  clear h3 h4
  go_enter Tryz.func4, Tryz.ntmps4
  go_wp2_with fail
  go_loopw [3, 4] (fun vn vi wr => ∃ k : Nat, k ≤ l.length ∧ vi = .int .i64 k ∧ vn = .int .i64 (l.length + flsSz (l.take k) : Nat) ∧ Hid (l.length + flsSz (l.take k) ≤ 1000000000000000) ∧ Hid (∃ q, wr = w.drewN q)) (fun _ vi _ => l.length - (intOf vi).toNat)
  case atStart => exact ⟨0, Nat.zero_le _, rfl, by simp [flsSz], by show _ ≤ _; simp [flsSz]; omega, ⟨0, rfl⟩⟩
  case round =>
    obtain ⟨k, hk, rfl, rfl, HS, HW⟩ := hrel
    obtain ⟨q, rfl⟩ := HW.out
    obtain ⟨N, hN⟩ : ∃ N, N = l.length + flsSz (l.take k) := ⟨_, rfl⟩
    rw [← hN] at HS ⊢
    have hN1 := HS.out
    have HNN : Hid _ := hN
    clear hN HS
    by_cases hlt : k < l.length
    · have hd1 : decide ((k : Int) < (l.length : Int)) = true := decide_eq_true (by omega)
      by_cases hn2 : (N : Int) < 2147483647
      · have hd2 : decide ((N : Int) < 2147483647) = true := decide_eq_true hn2
        rcases H3.out with e | ⟨b, off, rfl, hb, hr⟩
        · rw [e] at hlt; simp at hlt
        · have hg := H4.out l[k] (List.getElem_mem hlt)
          have hrk := hr k hlt
          have c1 : w.cell? ⟨b, off + k * 3, none⟩ = some (.string l[k].name) := by
            have h7 := hrk 0 _ rfl
            exact h7
          have c3 : w.cell? ⟨b, off + k * 3 + 1, none⟩ = some (.slice l[k].pa l[k].p.length l[k].pc) := hrk 1 _ rfl
          have hs1 := hg.pl
          have hs3 := hg.nl
          have e1 := flsSz_next hlt
          unfold flSz at e1
          have HE : Hid _ := e1
          clear e1 hr hrk hg
          generalize l[k] = o at *
          go_wp2_with fail
          go_quiet (fail)
          have hww : (N : Int) + o.p.length + o.name.size = ((N + (o.p.length + o.name.size) : Nat) : Int) := by omega
          rw [hww]
          obtain ⟨M, hM⟩ : ∃ M, M = N + (o.p.length + o.name.size) := ⟨_, rfl⟩
          rw [← hM]
          have HM : Hid (M = l.length + flsSz (l.take (k + 1)) ∧ M ≤ 1000000000000000) := ⟨by rw [hM, HE.out, HNN.out]; omega, by omega⟩
          clear hM hww c1 c3 hs1 hs3 HE
          go_wp2_with fail
          go_roundw
          case rel => exact ⟨k + 1, by omega, by go_num, by rw [HM.out.1], by rw [← HM.out.1]; exact HM.out.2, ⟨_, rfl⟩⟩
          case measure => simp [intOf]; omega
      · have hd2 : decide ((N : Int) < 2147483647) = false := decide_eq_false hn2
        obtain rfl : bb = true := by
          rw [HBB.out]
          have := flsSz_take l k
          have := HNN.out
          exact decide_eq_true (by omega)
        go_wp2_with fail
        go_ret
        exact ⟨rfl, below_drewN (Below.refl _ _) _⟩
    · have hd1 : decide ((k : Int) < (l.length : Int)) = false := decide_eq_false (by omega)
      have hkl : k = l.length := by omega
      have hN2 : N = l.length + flsSz l := by rw [HNN.out, hkl, List.take_length]
      obtain rfl : bb = decide ((2147483647 : Int) ≤ (N : Int)) := by
        rw [HBB.out]
        unfold fbd
        rw [← hN2]
        congr 1
        apply propext
        omega
      clear hN2 hkl
      go_wp2_with fail
      go_ret
      exact ⟨rfl, below_drewN (Below.refl _ _) _⟩
end Go.Proofs.YtbdokdhconhifaaGreatDoor

/- DiskFrom, walked. -/
namespace Go.Proofs.YtbdokdhconhifaaGreatDoor
open Go.RowKit Go.Shelf
set_option maxRecDepth 8000

theorem from_bad (room : Int) (v : Value) (w : World) (hq : ¬ (0 ≤ room ∧ room ≤ 16777216)) : Calls Tryz.prog 5 #[.int .i64 room, v] w fun e w' => e = .returned (.tuple #[.pointer none, .int .i64 1]) ∧ w' = w := by
  by_cases h0 : room < 0
  · have h1 : decide (room < 0) = true := decide_eq_true h0
    go_enter Tryz.func5, Tryz.ntmps5
    go_wp2_with fail
    go_ret2
    exact ⟨rfl, rfl⟩
  · have h1 : decide (room < 0) = false := decide_eq_false h0
    have h2 : decide (room > 16777216) = true := decide_eq_true (by omega)
    go_enter Tryz.func5, Tryz.ntmps5
    go_wp2_with fail
    go_ret2
    exact ⟨rfl, rfl⟩

theorem refFrom_bad (room : Int) (v : Value) (w : World) (hq : ¬ (0 ≤ room ∧ room ≤ 16777216)) : Calls Tryz.prog 6 #[.int .i64 room, v] w fun e w' => e = .returned (.tuple #[.pointer none, .int .i64 1]) ∧ w' = w := by
  have HN : Hid _ := refNew_no room w hq
  go_enter Tryz.func6, Tryz.ntmps6
  go_wp2_with fail
  refine Calls.mono HN.out ?_
  rintro e w1 ⟨rfl, hw1⟩
  subst w1
  go_wp2_with fail
  go_ret2
  exact ⟨rfl, rfl⟩

theorem SeesFls.kept {w w' : World} {S : Nat → Prop} {n : Nat} {v : Value} {l : List FlK} (h : SeesFls w n v l) (hk : Kept w w' S) (hS : ∀ k, k < n → ¬ S k) : SeesFls w' n v l := by
  obtain ⟨⟨a, c, rfl, h1, h2, h3⟩, h4⟩ := h
  refine ⟨⟨a, c, rfl, h1, h2, ?_⟩, fun o ho => (h4 o ho).kept hk hS⟩
  rcases h3 with h3 | ⟨b, off, rfl, hb, h3⟩
  · exact .inl h3
  · refine .inr ⟨b, off, rfl, hb, fun i hi j x hj => ?_⟩
    have hc := h3 i hi j x hj
    rw [World.cell?_of_block (hk.block b (World.block_lt_of_cell? w ⟨b, off + i * 3 + j, none⟩ hc) (hS b hb))]
    exact hc

theorem SeesFls.mono {w : World} {n n' : Nat} {v : Value} {l : List FlK} (h : SeesFls w n v l) (hn : n ≤ n') : SeesFls w n' v l := by
  obtain ⟨⟨a, c, rfl, h1, h2, h3⟩, h4⟩ := h
  refine ⟨⟨a, c, rfl, h1, h2, ?_⟩, fun o ho => ⟨(h4 o ho).see, (h4 o ho).pl, (h4 o ho).nl, fun hy k e => Nat.lt_of_lt_of_le ((h4 o ho).pb hy k e) hn, (h4 o ho).d0, (h4 o ho).d1⟩⟩
  rcases h3 with h3 | ⟨b, off, rfl, hb, h3⟩
  · exact .inl h3
  · exact .inr ⟨b, off, rfl, by omega, h3⟩

/-- From of both: a disk each, alike. -/
theorem takeL_files (D : DkD) (fs : List FiD) : (takeL D fs).2.room = D.room ∧ (takeL D fs).2.on = D.on ∧ (takeL D fs).2.armed = D.armed ∧ (takeL D fs).2.writes = D.writes := by
  induction fs generalizing D with
  | nil => exact ⟨rfl, rfl, rfl, rfl⟩
  | cons f fs ih =>
    unfold takeL
    split
    · exact ih _
    · exact ⟨rfl, rfl, rfl, rfl⟩

theorem both_from {w w2 w3 w4 : World} {p q : Nat} {room : Int} {fs : List FiD} {fv rv : Value} {ms : List FiM} {vs : List Value} (hb : Below w.heap.size w w2) (hr : Run w2 p w3 fv ms (takeL (newD room) fs).2 0) (hs : RunR w3 q w4 rv vs (rdOf (takeL (newD room) fs).2 room)) : Both w w4 p q (takeL (newD room) fs).2 (rdOf (takeL (newD room) fs).2 room) 0 := by
  obtain ⟨e1, e2, e3, e4⟩ := takeL_files (newD room) fs
  have s1 := hb.size
  have s2 := hr.bel.size
  refine ⟨⟨fv, ms, rv, vs, hr.is.later hs.bel, hs.is, fun j hj hm => ?_, fun j hj => ?_, fun j hj => ?_⟩, hr.ok, (fun e => by rw [e2] at e; cases e), ⟨rfl, e1.symm, e2.symm, e4.symm, .inl ⟨rfl, e3⟩⟩, by show (0 : Int) ≤ 9223372036854775807; decide, hr.writes, Below.step hb (Below.step hr.bel hs.bel)⟩
  · have h1 := hr.is.lt hj
    have h2 := hs.apart j hm
    omega
  · have := hr.apart j hj
    omega
  · have := hs.apart j hj
    omega

end Go.Proofs.YtbdokdhconhifaaGreatDoor
/- DiskOwn's lists in step: a Bag's bytes, the second answers, the disks' names; how each call moves them. -/
namespace Go.Proofs.YtbdokdhconhifaaGreatDoor
open Go.RowKit Go.Shelf
set_option maxRecDepth 8000

/-- A file's name finds it. -/
theorem pl_self {fs : List FiD} (hr : Rise fs) (i : Nat) (hi : i < fs.length) : pl fs fs[i].name = i := by
  have h1 : ¬ i < pl fs fs[i].name := fun e => by
    have := (pl_iff hr fs[i].name i hi).2 e
    rw [ncmp_self] at this
    omega
  rcases Nat.lt_or_ge (pl fs fs[i].name) i with h2 | h2
  · have h3 := List.pairwise_iff_getElem.1 hr (pl fs fs[i].name) i (by omega) hi h2
    have := (pl_iff hr fs[i].name _ (by omega)).1 h3
    omega
  · omega

theorem errO_own {D : DkD} (ok : DkOk D) (hon : D.on = true) (i : Nat) (hi : i < D.files.length) : D.errO D.files[i].name = 0 ∧ D.files[pl D.files D.files[i].name]? = some D.files[i] := by
  have e := pl_self ok.rise i hi
  refine ⟨?_, by rw [e]; exact List.getElem?_eq_getElem hi⟩
  unfold DkD.errO
  rw [hon, if_pos rfl, if_pos (ok.nms _ (List.getElem_mem hi)), if_pos ((hasF_iff _ _).2 ⟨by omega, by simp only [e]⟩)]

theorem Both.laterO {w0 w w' : World} {p q : Nat} {D : DkD} {R : RD} {k : Nat} (h : Both w0 w p q D R k) (hb : Below w.heap.size w w') : Both w0 w' p q D R k := by
  obtain ⟨fv, ms, rv, vs, h1, h2, h3, h4, h5⟩ := h.ex
  exact ⟨⟨fv, ms, rv, vs, h1.later hb, h2.later hb, h3, h4, h5⟩, h.ok, h.calm, h.play, h.more, h.writes, Below.step h.bel hb⟩

theorem row_later {w w' : World} {base : Nat} {T : TypeId} {z n : Nat} {v : Value} {xs : List Value} (h : w.ownsRow base T z v n xs) (hb : Below w.heap.size w w') : w'.ownsRow base T z v n xs :=
  row_kept h (below_new hb) (fun _ _ e => e)

/-- What DiskOwn's first loop keeps: behind w4 (both disks), a Bag at g with the lists ps, the pieces qs that lie apart, the second answers us. -/
structure OwnI (w4 w : World) (g : Nat) (fs : List FiD) (nv bv sv : Value) (ps qs : List Pc) (us : List Value) : Prop where
  bel : Below w4.heap.size w4 w
  gb : w4.heap.size ≤ g
  bag : BagIs w g bv nilS ps [] w4.heap.size
  bys : Bys w4.heap.size qs w
  nm : w.ownsRow w4.heap.size 9 1 nv fs.length (nmC fs)
  sec : w.ownsRow w4.heap.size 58 1 sv us.length us
  ub : ∀ (j : Nat) u f, us[j]? = some u → fs[j]? = some f → Owns w w4.heap.size u f.bytes
  ul : us.length ≤ fs.length
  sb : ∀ k, sv.ownBlock = some k → bv.ownBlock ≠ some k
  up : ∀ u ∈ us, ∀ k, u.ownBlock = some k → ∀ x, ¬ feet qs k x

namespace OwnI
variable {w4 w w' : World} {g : Nat} {fs : List FiD} {nv bv sv : Value} {ps qs : List Pc} {us : List Value}

theorem later (h : OwnI w4 w g fs nv bv sv ps qs us) (hb : Below w.heap.size w w') : OwnI w4 w' g fs nv bv sv ps qs us :=
  ⟨Below.step h.bel hb, h.gb, h.bag.kept (below_new hb) (fun e => e) (fun _ _ e => e), h.bys.later hb, row_later h.nm hb, row_later h.sec hb, fun j u f hu hf => row_later (h.ub j u f hu hf) hb, h.ul, h.sb, h.up⟩

theorem feet_lt (h : OwnI w4 w g fs nv bv sv ps qs us) {k x : Nat} (hf : feet qs k x) : k < w.heap.size := by
  obtain ⟨q, hq, hf⟩ := hf
  exact ((h.bys.lies q hq).foot_lt hf).1

theorem u_lt (h : OwnI w4 w g fs nv bv sv ps qs us) {u : Value} (hu : u ∈ us) {k : Nat} (hk : u.ownBlock = some k) : k < w.heap.size := by
  obtain ⟨j, hj, rfl⟩ := List.getElem_of_mem hu
  have := h.ul
  exact row_lt (h.ub j _ _ (List.getElem?_eq_getElem hj) (List.getElem?_eq_getElem (by omega))) hk

/-- A list that a call gave, beside the others. -/
theorem piece (h : OwnI w4 w g fs nv bv sv ps qs us) (hb : Below w.heap.size w w') {a : Option Addr} {n c : Nat} {bs : List Int} (ho : Owns w' w.heap.size (.slice a n c) bs) (hl : bs.length ≤ 70000000000000) : OwnI w4 w' g fs nv bv sv ps (qs ++ [⟨a, n, c⟩]) us := by
  have h' := h.later hb
  refine ⟨h'.bel, h'.gb, h'.bag, h.bys.add hb h.bel.size ho hl, h'.nm, h'.sec, h'.ub, h'.ul, h'.sb, fun u hu k e x hf => ?_⟩
  obtain ⟨q, hq, hf⟩ := hf
  rcases List.mem_append.1 hq with hq | hq
  · exact h.up u hu k e x ⟨q, hq, hf⟩
  · rw [List.mem_singleton.1 hq] at hf
    obtain ⟨off, ea, _⟩ := hf
    have e1 : (Value.slice a n c).ownBlock = some k := by
      simp only at ea
      rw [ea]; rfl
    have := row_base ho e1
    have := h.u_lt hu e
    omega

/-- The Bag takes one of them. -/
theorem added (h : OwnI w4 w g fs nv bv sv ps qs us) {bv' : Value} {ps' : List Pc} (hk : Kept w w' (fun k => k = g ∨ bv.ownBlock = some k)) (hb : BagIs w' g bv' nilS ps' [] w4.heap.size) (hn : NewRow w bv bv') : OwnI w4 w' g fs nv bv' sv ps' qs us := by
  refine ⟨h.bel.trans (BagIs.below h.bag hk (Nat.le_refl _) h.gb), h.gb, hb, h.bys.kept hk (h.bys.bag h.bag), ?_, ?_, fun j u f hu hf => Owns.bag (h.ub j u f hu hf) h.bag hk, h.ul, fun k e => ?_, h.up⟩
  · refine row_kept h.nm hk (fun k e e' => ?_)
    rcases e' with rfl | e'
    · exact row_not h.nm h.bag.row (by decide) e
    · exact type_ne (by decide) h.nm h.bag.bs _ e e'
  · refine row_kept h.sec hk (fun k e e' => ?_)
    rcases e' with rfl | e'
    · exact row_not h.sec h.bag.row (by decide) e
    · exact h.sb k e e'
  · rcases hn with hn | ⟨k', hn, hk'⟩
    · rw [hn]; exact h.sb k e
    · rw [hn]
      intro e2
      simp at e2
      have := row_lt h.sec e
      omega

/-- One more of the second answers. -/
theorem grown (h : OwnI w4 w g fs nv bv sv ps qs us) {sv' v : Value} (hlt : us.length < fs.length) (hv : Owns w w4.heap.size v fs[us.length].bytes) (hfr : ∀ k, v.ownBlock = some k → ∀ x, ¬ feet qs k x) (hk : Kept w w' (fun k => sv.ownBlock = some k)) (hs : w'.ownsRow w4.heap.size 58 1 sv' (us.length + 1) (us ++ [v])) (hn : NewRow w sv sv') : OwnI w4 w' g fs nv bv sv' ps qs (us ++ [v]) := by
  have hle := h.bel.size
  have hown : ∀ {u : Value} {bs : List Int}, Owns w w4.heap.size u bs → Owns w' w4.heap.size u bs := fun ho => row_kept ho hk (fun k e e' => type_ne (by decide) ho h.sec _ e e')
  refine ⟨h.bel.trans (hk.below hle (fun k e => row_base h.sec e)), h.gb, h.bag.kept hk (row_not h.sec h.bag.row (by decide)) (fun k e e' => h.sb k e' e), h.bys.kept hk (fun q hq k x hf e => ?_), row_kept h.nm hk (type_ne (by decide) h.nm h.sec), by rw [List.length_append]; exact hs, fun j u f hu hf => ?_, by rw [List.length_append]; exact hlt, fun k e => ?_, fun u hu k e => ?_⟩
  · obtain ⟨_, cs, hr⟩ := (h.bys.lies q hq).foot_lt hf
    obtain ⟨cs', e'⟩ := row_type h.sec e
    rw [e'] at hr
    simp at hr
  · rcases Nat.lt_or_ge j us.length with hj | hj
    · rw [List.getElem?_append_left hj] at hu
      exact hown (h.ub j u f hu hf)
    · rw [List.getElem?_append_right hj] at hu
      have hj0 : j - us.length = 0 := by
        rcases Nat.eq_zero_or_pos (j - us.length) with e | e
        · exact e
        · rw [List.getElem?_eq_none (by simp; omega)] at hu; cases hu
      rw [hj0] at hu
      simp at hu
      subst hu
      obtain rfl : j = us.length := by omega
      rw [List.getElem?_eq_getElem hlt] at hf
      simp at hf
      subst hf
      exact hown hv
  · rcases hn with hn | ⟨k', hn, hk'⟩
    · rw [hn] at e; exact h.sb k e
    · rw [hn] at e
      simp at e
      subst e
      intro e2
      have := row_lt h.bag.bs e2
      omega
  · rcases List.mem_append.1 hu with hu | hu
    · exact h.up u hu k e
    · rw [List.mem_singleton.1 hu] at e
      exact hfr k e

end OwnI
end Go.Proofs.YtbdokdhconhifaaGreatDoor

/- DiskOwn behind its first loop: what is left when the Bag has taken the texts and the files, and has been turned. -/
namespace Go.Proofs.YtbdokdhconhifaaGreatDoor
open Go.RowKit Go.Shelf
set_option maxRecDepth 8000

/-- Lists of bytes are turned, and then other blocks changed. -/
theorem turn_kept {w w1 w' : World} {ps : List Pc} {T : Nat → Prop} (ht : Turned w w1 (feet ps)) (hk : Kept w1 w' T) : Kept w w' (fun k => (∃ x, feet ps k x) ∨ T k) :=
  ⟨hk.os.trans ht.os, hk.tape.trans ht.tape, hk.output.trans ht.output, Nat.le_trans ht.size hk.size, fun k hk' hn => (hk.block k (Nat.lt_of_lt_of_le hk' ht.size) (fun e => hn (.inr e))).trans (ht.same k hk' (fun x e => hn (.inl ⟨x, e⟩)))⟩

/-- The bytes of an image's files, beside the others. -/
theorem Bys.image {B : Nat} {ps : List Pc} {w w' : World} (h : Bys B ps w) (hb : Below w.heap.size w w') (hB : B ≤ w.heap.size) {v : Value} {fl : List FiD} {vs : List Value} (hi : ImgAt w' w.heap.size v fl vs) (ha : ApV vs) (hl : ∀ f ∈ fl, f.bytes.length ≤ 70000000000000) : Bys B (ps ++ vs.map pcV) w' := by
  have h' := h.later hb
  have hu : ∀ u ∈ vs, Lies w' 5 (pcV u) ∧ (pcV u).n ≤ 70000000000000 ∧ ∀ k x, (pcV u).foot k x → w.heap.size ≤ k ∧ u.ownBlock = some k := fun u hu => by
    obtain ⟨i, hi', rfl⟩ := List.getElem_of_mem hu
    have hif : i < fl.length := by rw [← hi.len]; exact hi'
    have ho := hi.bys i _ _ (List.getElem?_eq_getElem hi') (List.getElem?_eq_getElem hif)
    have hlen := hl _ (List.getElem_mem hif)
    have ho' : w'.ownsRow w.heap.size 5 1 vs[i] (fl[i].bytes.map (Value.int .u8)).length (fl[i].bytes.map (Value.int .u8)) := by rw [List.length_map]; exact ho
    obtain ⟨p, e, hn, _, hl2, hf⟩ := own_has ho'
    have e2 : pcV vs[i] = p := by
      rw [e]; rfl
    rw [e2]
    rw [List.length_map] at hn
    refine ⟨hl2, by omega, fun k x hfo => ⟨hf k x hfo, ?_⟩⟩
    obtain ⟨off, ea, _⟩ := hfo
    rw [e]
    simp [Pc.val, ea, Value.ownBlock]
  refine ⟨fun q hq => ?_, fun q hq => ?_, fun q hq => ?_, List.pairwise_append.2 ⟨h.ap, ?_, fun p hp q hq k x h1 h2 => ?_⟩⟩
  · rcases List.mem_append.1 hq with hq | hq
    · exact h'.lies q hq
    · obtain ⟨u, hu', rfl⟩ := List.mem_map.1 hq
      exact (hu u hu').1
  · rcases List.mem_append.1 hq with hq | hq
    · exact h.few q hq
    · obtain ⟨u, hu', rfl⟩ := List.mem_map.1 hq
      exact (hu u hu').2.1
  · rcases List.mem_append.1 hq with hq | hq
    · exact h.base q hq
    · obtain ⟨u, hu', rfl⟩ := List.mem_map.1 hq
      exact fun k x hf => Nat.le_trans hB ((hu u hu').2.2 k x hf).1
  · rw [List.pairwise_map]
    refine List.Pairwise.imp_of_mem (fun {a b} ha' hb' hab k x h1 h2 => ?_) ha
    exact hab k ((hu a ha').2.2 k x h1).2 ((hu b hb').2.2 k x h2).2
  · obtain ⟨u, hu', rfl⟩ := List.mem_map.1 hq
    have a1 := ((h.lies p hp).foot_lt h1).1
    have a2 := ((hu u hu').2.2 k x h2).1
    omega

/-- A foot of an image's bytes is new. -/
theorem feet_image {w' : World} {B : Nat} {v : Value} {fl : List FiD} {vs : List Value} (hi : ImgAt w' B v fl vs) {k x : Nat} (hf : feet (vs.map pcV) k x) : B ≤ k := by
  obtain ⟨q, hq, hf⟩ := hf
  obtain ⟨u, hu, rfl⟩ := List.mem_map.1 hq
  obtain ⟨i, hi', rfl⟩ := List.getElem_of_mem hu
  have hif : i < fl.length := by rw [← hi.len]; exact hi'
  have ho := hi.bys i _ _ (List.getElem?_eq_getElem hi') (List.getElem?_eq_getElem hif)
  obtain ⟨a, n, c, e⟩ := row_form ho
  obtain ⟨off, ea, _⟩ := hf
  refine row_base ho (g := k) ?_
  rw [e] at ea ⊢
  simp only [pcV] at ea
  rw [ea]
  rfl

/-- What is left of the first loop: the pieces, the names, the second answers. -/
structure OwnL (w4 w : World) (fs : List FiD) (nv sv : Value) (qs : List Pc) (us : List Value) : Prop where
  bel : Below w4.heap.size w4 w
  bys : Bys w4.heap.size qs w
  nm : w.ownsRow w4.heap.size 9 1 nv fs.length (nmC fs)
  sec : w.ownsRow w4.heap.size 58 1 sv us.length us
  ub : ∀ (j : Nat) u f, us[j]? = some u → fs[j]? = some f → Owns w w4.heap.size u f.bytes
  ul : us.length = fs.length
  up : ∀ u ∈ us, ∀ k, u.ownBlock = some k → ∀ x, ¬ feet qs k x

namespace OwnL
variable {w4 w w' : World} {fs : List FiD} {nv sv : Value} {qs : List Pc} {us : List Value}

theorem of {g : Nat} {bv : Value} {ps : List Pc} (h : OwnI w4 w g fs nv bv sv ps qs us) (hl : us.length = fs.length) : OwnL w4 w fs nv sv qs us :=
  ⟨h.bel, h.bys, h.nm, h.sec, h.ub, hl, h.up⟩

theorem u_row (h : OwnL w4 w fs nv sv qs us) {u : Value} (hu : u ∈ us) : ∃ f : FiD, Owns w w4.heap.size u f.bytes := by
  obtain ⟨j, hj, rfl⟩ := List.getElem_of_mem hu
  have := h.ul
  exact ⟨fs[j], h.ub j _ _ (List.getElem?_eq_getElem hj) (List.getElem?_eq_getElem (by omega))⟩

theorem later (h : OwnL w4 w fs nv sv qs us) (hb : Below w.heap.size w w') : OwnL w4 w' fs nv sv qs us :=
  ⟨Below.step h.bel hb, h.bys.later hb, row_later h.nm hb, row_later h.sec hb, fun j u f hu hf => row_later (h.ub j u f hu hf) hb, h.ul, h.up⟩

/-- Where blocks change that are none of these. -/
theorem moved (h : OwnL w4 w fs nv sv qs us) {S : Nat → Prop} (hk : Kept w w' S) (hS : ∀ k, S k → w4.heap.size ≤ k) (h1 : ∀ k, nv.ownBlock = some k → ¬ S k) (h2 : ∀ k, sv.ownBlock = some k → ¬ S k) (h3 : ∀ u ∈ us, ∀ k, u.ownBlock = some k → ¬ S k) (h4 : ∀ p ∈ qs, ∀ k x, p.foot k x → ¬ S k) : OwnL w4 w' fs nv sv qs us :=
  ⟨h.bel.trans (hk.below h.bel.size hS), h.bys.kept hk h4, row_kept h.nm hk h1, row_kept h.sec hk h2, fun j u f hu hf => row_kept (h.ub j u f hu hf) hk (h3 u (List.mem_of_getElem? hu)), h.ul, h.up⟩

/-- An image's bytes beside them. -/
theorem image (h : OwnL w4 w fs nv sv qs us) (hb : Below w.heap.size w w') {v : Value} {fl : List FiD} {vs : List Value} (hi : ImgAt w' w.heap.size v fl vs) (ha : ApV vs) (hl : ∀ f ∈ fl, f.bytes.length ≤ 70000000000000) : OwnL w4 w' fs nv sv (qs ++ vs.map pcV) us := by
  have h' := h.later hb
  refine ⟨h'.bel, h.bys.image hb h.bel.size hi ha hl, h'.nm, h'.sec, h'.ub, h'.ul, fun u hu k e x hf => ?_⟩
  obtain ⟨q, hq, hf⟩ := hf
  rcases List.mem_append.1 hq with hq | hq
  · exact h.up u hu k e x ⟨q, hq, hf⟩
  · have h1 := feet_image hi (k := k) (x := x) ⟨q, hq, hf⟩
    obtain ⟨f, ho⟩ := h.u_row hu
    have := row_lt ho e
    omega

end OwnL
end Go.Proofs.YtbdokdhconhifaaGreatDoor

/- DiskOwn: what stands behind the Bag's look. -/
namespace Go.Proofs.YtbdokdhconhifaaGreatDoor
open Go.RowKit Go.Shelf
set_option maxRecDepth 8000

theorem row_monoO {w : World} {base base' : Nat} {T : TypeId} {z n : Nat} {v : Value} {xs : List Value} (h : w.ownsRow base T z v n xs) (hb : base' ≤ base) : w.ownsRow base' T z v n xs := by
  obtain ⟨h1, h2 | ⟨g, cap, cur, e, a2, a3⟩⟩ := h
  · exact ⟨h1, .inl h2⟩
  · exact ⟨h1, .inr ⟨g, cap, cur, e, Nat.le_trans hb a2, a3⟩⟩

theorem nmC_at {fs : List FiD} {k : Nat} (hk : k < fs.length) : (nmC fs)[k]? = some (.string fs[k].name) := by
  simp [nmC, hk]

theorem blkR_one {v : Value} {n k : Nat} (h : BlkR [⟨v, n⟩] k) : v.ownBlock = some k := by
  obtain ⟨j, hj, e⟩ := h
  simp at hj
  subst hj
  exact e

theorem apartR_one (v : Value) (n : Nat) : ApartR [⟨v, n⟩] := fun i j hi hj hne => by
  simp at hi hj
  omega

theorem rowsR_one {w : World} {T : TypeId} {z n base : Nat} {v : Value} {xs : List Value} (h : w.ownsRow base T z v n xs) : RowsR w T z [⟨v, n⟩] (fun _ => xs) := fun j hj => by
  simp at hj
  subst hj
  exact row_monoO h (Nat.zero_le _)

theorem BagD.later {w w' : World} {g : Nat} {bv tv fv : Value} {ps : List Pc} {ts fs : List Value} {B : Nat} (h : BagD w g bv tv fv ps ts fs B) (hb : Below w.heap.size w w') : BagD w' g bv tv fv ps ts fs B :=
  ⟨(below_new hb).heap h.row (fun e => e), row_later h.bs hb, row_later h.ts hb, row_later h.fi hb⟩

theorem ImgAt.lateO {w w' : World} {B : Nat} {v : Value} {fl : List FiD} {vs : List Value} (h : ImgAt w B v fl vs) (hb : Below w.heap.size w w') : ImgAt w' B v fl vs :=
  ⟨h.len, row_later h.own hb, fun i u f hu hf => row_later (h.bys i u f hu hf) hb⟩

theorem isRd_errO {D : DkD} (ok : DkOk D) {R : RD} (hR : R.files = D.files) (hon : R.power = true) (i : Nat) (hi : i < D.files.length) : R.errO D.files[i].name = 0 ∧ R.files[pl R.files D.files[i].name]? = some D.files[i] := by
  have e := pl_self ok.rise i hi
  refine ⟨?_, by rw [hR, e]; exact List.getElem?_eq_getElem hi⟩
  unfold RD.errO
  rw [hon, if_pos rfl, if_pos (ok.nms _ (List.getElem_mem hi)), hR, if_pos ((hasF_iff _ _).2 ⟨by omega, by simp only [e]⟩)]

/-- What the second loop and the end look at. -/
structure OwnF (w4 w : World) (fs : List FiD) (nv sv : Value) (us : List Value) (tx im : Value) : Prop where
  bel : Below w4.heap.size w4 w
  nm : w.ownsRow w4.heap.size 9 1 nv fs.length (nmC fs)
  sec : w.ownsRow w4.heap.size 58 1 sv us.length us
  ub : ∀ (j : Nat) u f, us[j]? = some u → fs[j]? = some f → Owns w w4.heap.size u f.bytes
  ul : us.length = fs.length
  tx : w.ownsRow 0 9 1 tx fs.length (nmC fs)
  im : ∃ B vs, ImgAt w B im fs vs

theorem OwnF.later {w4 w w' : World} {fs : List FiD} {nv sv : Value} {us : List Value} {tx im : Value} (h : OwnF w4 w fs nv sv us tx im) (hb : Below w.heap.size w w') : OwnF w4 w' fs nv sv us tx im := by
  obtain ⟨B, vs, hi⟩ := h.im
  exact ⟨Below.step h.bel hb, row_later h.nm hb, row_later h.sec hb, fun j u f hu hf => row_later (h.ub j u f hu hf) hb, h.ul, row_later h.tx hb, B, vs, hi.lateO hb⟩

theorem Bys.notT {B : Nat} {qs : List Pc} {w : World} (h : Bys B qs w) {base : Nat} {T : TypeId} {z n : Nat} {v : Value} {xs : List Value} (hr : w.ownsRow base T z v n xs) (hT : T ≠ 5) {k : Nat} (e : v.ownBlock = some k) : ¬ ∃ x, feet qs k x := by
  rintro ⟨x, q, hq, hf⟩
  obtain ⟨_, cs, h1⟩ := (h.lies q hq).foot_lt hf
  obtain ⟨cs', h2⟩ := row_type hr e
  rw [h1] at h2
  simp at h2
  exact hT h2.2.symm

theorem OwnL.turned {w4 w w' : World} {fs : List FiD} {nv sv : Value} {qs : List Pc} {us : List Value} (h : OwnL w4 w fs nv sv qs us) {b1 b2 b3 b4 n1 n2 : Nat} {t1 i1 t2 i2 : Value} {xs1 xs2 vs2 : List Value}
    (r1 : w.ownsRow b1 9 1 t1 n1 xs1) (r2 : w.ownsRow b2 71 3 i1 n2 xs2) (r3 : w.ownsRow b3 9 1 t2 fs.length (nmC fs)) (r4 : ImgAt w b4 i2 fs vs2)
    (m1 : ∀ k, nv.ownBlock = some k → t1.ownBlock ≠ some k) (m2 : ∀ k, t2.ownBlock = some k → t1.ownBlock ≠ some k) (m3 : ∀ k, i2.ownBlock = some k → i1.ownBlock ≠ some k) (m4 : ∀ u ∈ vs2, ∀ k, u.ownBlock = some k → ∀ x, ¬ feet qs k x)
    (c1 : w4.heap.size ≤ b1) (c2 : w4.heap.size ≤ b2) (hk : Kept w w' (fun k => (∃ x, feet qs k x) ∨ t1.ownBlock = some k ∨ i1.ownBlock = some k)) : OwnF w4 w' fs nv sv us t2 i2 := by
  refine ⟨h.bel.trans (hk.below h.bel.size (fun k e => ?_)), row_kept h.nm hk (fun k e e' => ?_), row_kept h.sec hk (fun k e e' => ?_), fun j u f hu hf => row_kept (h.ub j u f hu hf) hk (fun k e e' => ?_), h.ul, row_kept (row_monoO r3 (Nat.zero_le _)) hk (fun k e e' => ?_), b4, vs2, r4.len, row_kept r4.own hk (fun k e e' => ?_), fun j u f hu hf => row_kept (r4.bys j u f hu hf) hk (fun k e e' => ?_)⟩
  · rcases e with ⟨x, q, hq, hf⟩ | e | e
    · exact h.bys.base q hq k x hf
    · have := row_base r1 e; omega
    · have := row_base r2 e; omega
  · rcases e' with e' | e' | e'
    · exact h.bys.notT h.nm (by decide) e e'
    · exact m1 k e e'
    · exact type_ne (by decide) h.nm r2 k e e'
  · rcases e' with e' | e' | e'
    · exact h.bys.notT h.sec (by decide) e e'
    · exact type_ne (by decide) h.sec r1 k e e'
    · exact type_ne (by decide) h.sec r2 k e e'
  · rcases e' with ⟨x, e'⟩ | e' | e'
    · exact h.up u (List.mem_of_getElem? hu) k e x e'
    · exact type_ne (by decide) (h.ub j u f hu hf) r1 k e e'
    · exact type_ne (by decide) (h.ub j u f hu hf) r2 k e e'
  · rcases e' with e' | e' | e'
    · exact h.bys.notT r3 (by decide) e e'
    · exact m2 k e e'
    · exact type_ne (by decide) r3 r2 k e e'
  · rcases e' with e' | e' | e'
    · exact h.bys.notT r4.own (by decide) e e'
    · exact type_ne (by decide) r4.own r1 k e e'
    · exact m3 k e e'
  · rcases e' with ⟨x, e'⟩ | e' | e'
    · exact m4 u (List.mem_of_getElem? hu) k e x e'
    · exact type_ne (by decide) (r4.bys j u f hu hf) r1 k e e'
    · exact type_ne (by decide) (r4.bys j u f hu hf) r2 k e e'

/-- Where the Bag alone changes. -/
theorem OwnL.bagged {w4 w w' : World} {fs : List FiD} {nv sv : Value} {qs : List Pc} {us : List Value} (h : OwnL w4 w fs nv sv qs us) {g : Nat} {bv tv fv : Value} {ps : List Pc} {ts fls : List Value} (hb : BagD w g bv tv fv ps ts fls w4.heap.size) (hg : w4.heap.size ≤ g) (hs : ∀ k, sv.ownBlock = some k → bv.ownBlock ≠ some k) (hk : Kept w w' (fun k => k = g ∨ tv.ownBlock = some k ∨ fv.ownBlock = some k ∨ bv.ownBlock = some k)) : OwnL w4 w' fs nv sv qs us := by
  refine h.moved hk (fun k e => ?_) (fun k e e' => ?_) (fun k e e' => ?_) (fun u hu k e e' => ?_) (fun q hq k x hf e' => ?_)
  · rcases e with rfl | e | e | e
    · exact hg
    · exact row_base hb.ts e
    · exact row_base hb.fi e
    · exact row_base hb.bs e
  · rcases e' with rfl | e' | e' | e'
    · exact row_not h.nm hb.row (by decide) e
    · exact type_ne (by decide) h.nm hb.ts k e e'
    · exact type_ne (by decide) h.nm hb.fi k e e'
    · exact type_ne (by decide) h.nm hb.bs k e e'
  · rcases e' with rfl | e' | e' | e'
    · exact row_not h.sec hb.row (by decide) e
    · exact type_ne (by decide) h.sec hb.ts k e e'
    · exact type_ne (by decide) h.sec hb.fi k e e'
    · exact hs k e e'
  · obtain ⟨f, ho⟩ := h.u_row hu
    rcases e' with rfl | e' | e' | e'
    · exact row_not ho hb.row (by decide) e
    · exact type_ne (by decide) ho hb.ts k e e'
    · exact type_ne (by decide) ho hb.fi k e e'
    · exact type_ne (by decide) ho hb.bs k e e'
  · obtain ⟨_, cs, h1⟩ := (h.bys.lies q hq).foot_lt hf
    rcases e' with rfl | e' | e' | e'
    · rw [hb.row] at h1
      simp at h1
    · obtain ⟨cs', h2⟩ := row_type hb.ts e'
      rw [h1] at h2; simp at h2
    · obtain ⟨cs', h2⟩ := row_type hb.fi e'
      rw [h1] at h2; simp at h2
    · obtain ⟨cs', h2⟩ := row_type hb.bs e'
      rw [h1] at h2; simp at h2

end Go.Proofs.YtbdokdhconhifaaGreatDoor
