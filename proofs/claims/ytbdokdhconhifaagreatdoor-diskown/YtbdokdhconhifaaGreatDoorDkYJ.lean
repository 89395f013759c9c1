/- What was put and synced stays, whatever is done to other files: data alone. -/
import Derived.Test.YtbdokdhconhifaaGreatDoorDkSJ
import Derived.Deep.QuietTactic
import Derived.BigQuiet
import Derived.Test.YtbdokdhconhifaaGreatDoorDkTJ
namespace Go.Proofs.YtbdokdhconhifaaGreatDoor
open Go.RowKit
set_option maxRecDepth 8000

theorem mem_upd {fs : List FiD} {n : ByteArray} (g : FiD → FiD) (hh : hasF fs n = true) {f : FiD} (hf : f ∈ fs) (hn : f.name ≠ n) : f ∈ updF fs n g := by
  obtain ⟨h1, h2⟩ := (hasF_iff _ _).1 hh
  unfold updF
  rw [List.getElem?_eq_getElem h1]
  obtain ⟨k, hk, rfl⟩ := List.getElem_of_mem hf
  have hne : pl fs n ≠ k := fun e => hn (by subst e; exact h2)
  exact List.mem_iff_getElem?.2 ⟨k, by rw [List.getElem?_set, if_neg hne]; exact List.getElem?_eq_getElem hk⟩

theorem mem_drop {fs : List FiD} {n : ByteArray} {f : FiD} (hf : f ∈ fs) (hn : f.name ≠ n) : f ∈ fs.eraseIdx (dropI fs n) := by
  unfold dropI
  cases hh : hasF fs n
  · rw [if_neg (by simp), List.eraseIdx_of_length_le (Nat.le_refl _)]; exact hf
  · rw [if_pos rfl]
    obtain ⟨h1, h2⟩ := (hasF_iff _ _).1 hh
    obtain ⟨k, hk, rfl⟩ := List.getElem_of_mem hf
    have hne : k ≠ pl fs n := fun e => hn (by subst e; exact h2)
    by_cases hlt : k < pl fs n
    · exact List.mem_iff_getElem?.2 ⟨k, by rw [getElem?_erase, if_pos hlt]; exact List.getElem?_eq_getElem hk⟩
    · exact List.mem_iff_getElem?.2 ⟨k - 1, by rw [getElem?_erase, if_neg (by omega), show k - 1 + 1 = k by omega]; exact List.getElem?_eq_getElem hk⟩

theorem mem_ins {fs : List FiD} {f : FiD} (g : FiD) (hf : f ∈ fs) : f ∈ insF fs g := by
  unfold insF
  rw [← List.take_append_drop (pl fs g.name) fs] at hf
  rcases List.mem_append.1 hf with h | h
  · exact List.mem_append.2 (.inl h)
  · exact List.mem_append.2 (.inr (List.mem_cons_of_mem _ h))

theorem off_files (D : DkD) : D.off.files = D.files := by unfold DkD.off; split <;> rfl

theorem mem_act {D : DkD} {e : Int} {fs : List FiD} {f : FiD} (hf : f ∈ D.files) (h : e = 0 → f ∈ fs) : f ∈ (D.act e fs).2.files := by
  unfold DkD.act
  split
  · rename_i he
    split
    · rw [off_files]; exact hf
    · exact h he
  · exact hf

theorem mem_actK {D : DkD} {o : OpK} {f : FiD} (hf : f ∈ D.files) (hn : o.name ≠ f.name) (hd : o.dest ≠ f.name) : f ∈ (actK D o).2.files := by
  unfold actK
  split
  · refine mem_act hf fun _ => ?_
    unfold appF
    split
    · rename_i hh; exact mem_upd _ hh hf (Ne.symm hn)
    · exact mem_ins _ hf
  · split
    · exact mem_act hf fun e => mem_upd _ (errO_zero e).2.2 hf (Ne.symm hn)
    · split
      · exact mem_act hf fun e => mem_upd _ (errO_zero (errC_zero e).1).2.2 hf (Ne.symm hn)
      · split
        · refine mem_act hf fun _ => ?_
          unfold renF
          split
          · unfold movF
            exact mem_ins _ (mem_drop (mem_drop hf (Ne.symm hn)) (Ne.symm hd))
          · exact hf
        · split
          · exact mem_act hf fun _ => mem_drop hf (Ne.symm hn)
          · exact hf

abbrev ownN : ByteArray := ⟨#[111, 119, 110, 46, 102, 105, 108, 101, 46, 111, 102, 46, 116, 104, 105, 115, 46, 112, 108, 97, 121]⟩

theorem own_nm : isNm ownN = true := by decide +kernel

/-- The disk behind the put and the sync. -/
theorem own_put (room : Int) (ys : List Int) : (newD room).errA ownN ys.length = if (ys.length : Int) ≤ room then 0 else 21 := by
  unfold DkD.errA
  rw [if_pos rfl, own_nm, if_pos rfl, if_neg (by simp)]
  simp [usedD]

abbrev ownD (room : Int) (ys : List Int) : DkD := ⟨[⟨ownN, ys, 0⟩], room, true, -1, 1⟩
abbrev ownS (room : Int) (ys : List Int) : DkD := ⟨[⟨ownN, ys, ys.length⟩], room, true, -1, 2⟩

theorem own_one {room : Int} {ys : List Int} (h : (ys.length : Int) ≤ room) : (newD room).act ((newD room).errA ownN ys.length) (appF (newD room).files ownN ys) = (0, ownD room ys) := by
  rw [own_put, if_pos h]
  have e : appF [] ownN ys = [⟨ownN, ys, 0⟩] := by
    unfold appF
    have : hasF [] ownN = false := by simp [hasF]
    rw [this]
    rfl
  unfold DkD.act DkD.done
  simp only [e]
  rfl

theorem own_one' {room : Int} {ys : List Int} (h : ¬ (ys.length : Int) ≤ room) : (newD room).act ((newD room).errA ownN ys.length) (appF (newD room).files ownN ys) = (21, newD room) := by
  rw [own_put, if_neg h]
  rfl

theorem has_own (ys : List Int) (d : Int) : hasF [⟨ownN, ys, d⟩] ownN = true ∧ pl [⟨ownN, ys, d⟩] ownN = 0 := by
  have h0 : pl [⟨ownN, ys, d⟩] ownN = 0 := by
    rw [pl_cons, if_neg]
    show ¬ ncmp ownN ownN < 0
    rw [ncmp_self]
    omega
  refine ⟨(hasF_iff _ _).2 ⟨by rw [h0]; simp, ?_⟩, h0⟩
  simp [h0]

theorem own_two (room : Int) (ys : List Int) : (ownD room ys).act ((ownD room ys).errO ownN) (updF (ownD room ys).files ownN durF) = (0, ownS room ys) := by
  obtain ⟨h1, h2⟩ := has_own ys 0
  have e : (ownD room ys).errO ownN = 0 := by
    unfold DkD.errO
    rw [if_pos rfl, own_nm, if_pos rfl]
    show (if hasF [⟨ownN, ys, 0⟩] ownN = true then (0 : Int) else 20) = 0
    rw [h1]
    rfl
  have e2 : updF [⟨ownN, ys, 0⟩] ownN durF = [⟨ownN, ys, ys.length⟩] := by
    unfold updF
    rw [h2]
    rfl
  rw [e]
  unfold DkD.act DkD.done
  simp only [e2]
  rfl

theorem own_two' (room : Int) : (newD room).act ((newD room).errO ownN) (updF (newD room).files ownN durF) = (20, newD room) := by
  have e : (newD room).errO ownN = 20 := by
    unfold DkD.errO
    rw [if_pos rfl, own_nm, if_pos rfl]
    have : hasF [] ownN = false := by simp [hasF]
    show (if hasF [] ownN = true then (0 : Int) else 20) = 20
    rw [this]
    rfl
  rw [e]
  rfl

/-- A loss of power leaves a durable file as it was. -/
theorem own_last {D : DkD} (ok : DkOk D) {n : ByteArray} {ys : List Int} (hf : (⟨n, ys, ys.length⟩ : FiD) ∈ D.files) (ks : List Int) : (D.off.start ks).errO n = 0 ∧ ∀ f, (D.off.start ks).files[pl (D.off.start ks).files n]? = some f → f.bytes = ys := by
  obtain ⟨hon, hfs⟩ := off_start D ks
  have hr : Rise (lossF D.files ks) := (ok.fok.loss ks).rise
  obtain ⟨k, hk, e⟩ := List.getElem_of_mem hf
  have hk2 : k < (lossF D.files ks).length := by simp [lossF]; exact hk
  have hg : (lossF D.files ks)[k] = ⟨n, ys, ys.length⟩ := by
    have hl : leftN (⟨n, ys, ys.length⟩ : FiD) (ks.getD k 0) = ys.length := by unfold leftN; simp only; omega
    simp only [lossF, List.getElem_mapIdx, e, lossAt]
    rw [hl, List.take_of_length_le (Nat.le_refl _)]
  have hp : pl (lossF D.files ks) n = k := at_pl hr hk2 (by rw [hg])
  have hh : hasF (lossF D.files ks) n = true := (hasF_mem hr n).2 ⟨_, List.getElem_mem hk2, by rw [hg]⟩
  rw [hfs]
  refine ⟨?_, fun f h => ?_⟩
  · unfold DkD.errO
    have hnm : isNm n = true := ok.nms _ hf
    rw [hon, if_pos rfl, hnm, if_pos rfl, hfs, hh]
    rfl
  · rw [hp, List.getElem?_eq_getElem hk2, hg] at h
    exact (Option.some.inj h) ▸ rfl
end Go.Proofs.YtbdokdhconhifaaGreatDoor

/- Two images of the same files: EqFiles answers true. -/
namespace Go.Proofs.YtbdokdhconhifaaGreatDoor
open Go.RowKit Go.Shelf
set_option maxRecDepth 8000

set_option maxHeartbeats 1000000 in
theorem eqFiles_same {w : World} {B1 B2 g1 g2 : Nat} {fs : List FiD} {vs us : List Value} (h1 : ImgAt w B1 (.slice (some ⟨g1, 0, none⟩) fs.length fs.length) fs vs) (h2 : ImgAt w B2 (.slice (some ⟨g2, 0, none⟩) fs.length fs.length) fs us) (hfew : fs.length ≤ 64) :
    Calls Tryz.prog 19 #[.slice (some ⟨g1, 0, none⟩) fs.length fs.length, .slice (some ⟨g2, 0, none⟩) fs.length fs.length] w fun e w' => e = .returned (.bool true) ∧ ∃ n, w' = w.drewN n := by
  have H : Hid (ImgAt w B1 (.slice (some ⟨g1, 0, none⟩) fs.length fs.length) fs vs ∧ ImgAt w B2 (.slice (some ⟨g2, 0, none⟩) fs.length fs.length) fs us) := ⟨h1, h2⟩
  clear h1 h2
  obtain ⟨N, hN⟩ : ∃ N, N = fs.length := ⟨_, rfl⟩
  rw [← hN] at hfew ⊢
  have HN : Hid _ := hN
  clear hN
  go_enter Tryz.func19, Tryz.ntmps19
  go_wp2_with fail
  go_loopw [5] (fun vi wx => ∃ i : Nat, i ≤ N ∧ vi = .int .i64 i ∧ Hid (∃ q, wx = w.drewN q)) (fun vi _ => N - (intOf vi).toNat)
  case atStart => exact ⟨0, Nat.zero_le _, rfl, ⟨0, rfl⟩⟩
  case round =>
    obtain ⟨i, hi, rfl, HW⟩ := hrel
    have hbw : Below w.heap.size w wr := by
      obtain ⟨q, rfl⟩ := HW.out
      exact below_drewN (Below.refl _ _) q
    by_cases hlt : i < N
    · have hlt1 : i < fs.length := by rw [← HN.out]; exact hlt
      obtain ⟨u1, _, a0, a1, a2, ho1⟩ := (H.out.1.kept (Below.kept hbw) (fun j e => .inr e)).cells i hlt1
      obtain ⟨u2, _, b0, b1, b2, ho2⟩ := (H.out.2.kept (Below.kept hbw) (fun j e => .inr e)).cells i hlt1
      obtain ⟨x1, y1, hu1, _, _⟩ := own_shape (owns_mono ho1 (Nat.zero_le _))
      obtain ⟨x2, y2, hu2, _, _⟩ := own_shape (owns_mono ho2 (Nat.zero_le _))
      have hs1 := Sees.own ho1
      have hs2 := Sees.own ho2
      rw [hu1] at hs1 a1
      rw [hu2] at hs2 b1
      have HEQ : Hid (∀ m, Calls Tryz.prog 17 #[.slice x1 fs[i].bytes.length y1, .slice x2 fs[i].bytes.length y2] (wr.drewN m) fun e w' => e = .returned (.bool true) ∧ ∃ n, w' = (wr.drewN m).drewN n) := fun m => by
        have h1 := eqBytes_any _ _ _ _ (wr.drewN m) (hs1.below (below_drewN (Below.refl _ _) m) (Nat.le_refl _)) (hs2.below (below_drewN (Below.refl _ _) m) (Nat.le_refl _))
        rw [decide_eq_true rfl] at h1
        exact h1
      generalize fs[i].bytes.length = L at *
      generalize fs[i].name = nm at *
      generalize fs[i].dur = du at *
      clear ho1 ho2 hs1 hs2 hu1 hu2 hbw
      go_wp2_with fail
      go_quiet ((go_at_call 17; exact Calls.quiet_of (HEQ.out _)))
      go_wp2_with fail
      go_roundw
      case rel => exact ⟨i + 1, by omega, by go_num, ⟨HW.out.choose + nq, by rw [← World.drewN_drewN, ← HW.out.choose_spec]⟩⟩
      case measure => simp [intOf]; omega
    · obtain rfl : i = N := by omega
      go_wp2_with fail
      go_ret
      exact ⟨rfl, HW.out⟩
end Go.Proofs.YtbdokdhconhifaaGreatDoor

/- Two disks, one of them armed: data and memory. -/
namespace Go.Proofs.YtbdokdhconhifaaGreatDoor
open Go.RowKit Go.Shelf
set_option maxRecDepth 8000

/-- A is D, armed with what is left of n. -/
structure Mate (n : Int) (D A : DkD) : Prop where
  on : D.on = true
  un : D.armed = -1
  is : A = { D with armed := if n < 0 then -1 else n - D.writes }
  le : n < 0 ∨ D.writes ≤ n

/-- What one call does to both. -/
def Stays (n : Int) (D D' A' : DkD) (x y : Int) : Prop := y = x ∧ Mate n D' A' ∧ (D'.writes = D.writes ∨ (D'.writes = D.writes + 1 ∧ (n < 0 ∨ D.writes ≠ n)))
def Falls (n : Int) (D D' A' : DkD) (x y : Int) : Prop := x = 0 ∧ y = 23 ∧ D'.writes = D.writes + 1 ∧ 0 ≤ n ∧ D.writes = n ∧ A'.on = false ∧ A'.writes = n ∧ A'.files = D.files

theorem mate_act {n : Int} {D A : DkD} (h : Mate n D A) (e : Int) (fs : List FiD) : Stays n D (D.act e fs).2 (A.act e fs).2 (D.act e fs).1 (A.act e fs).1 ∨ Falls n D (D.act e fs).2 (A.act e fs).2 (D.act e fs).1 (A.act e fs).1 := by
  by_cases he : e = 0
  · subst he
    have hD : D.act 0 fs = (0, D.done fs) := act_done (by rw [h.un]; decide) fs
    have hDm : ∀ (_ : n < 0 ∨ D.writes + 1 ≤ n), Mate n (D.done fs) { D.done fs with armed := if n < 0 then -1 else n - (D.writes + 1) } := fun hle => ⟨h.on, by show max (D.armed - 1) (-1) = -1; rw [h.un]; omega, rfl, hle⟩
    by_cases hn : n < 0
    · have hA : A.act 0 fs = (0, A.done fs) := act_done (by rw [h.is]; simp [hn]) fs
      have hAd : A.done fs = { D.done fs with armed := if n < 0 then -1 else n - (D.writes + 1) } := by
        rw [h.is]
        unfold DkD.done
        simp only [if_pos hn]
        congr 1
      rw [hD, hA]
      refine .inl ⟨rfl, ?_, .inr ⟨rfl, .inl hn⟩⟩
      show Mate n (D.done fs) (A.done fs)
      rw [hAd]
      exact hDm (.inl hn)
    · have hle : D.writes ≤ n := by rcases h.le with e | e; exact absurd e hn; exact e
      by_cases hw : D.writes = n
      · have hA : A.act 0 fs = (23, A.off) := act_off (by rw [h.is]; simp [hn]; omega) fs
        rw [hD, hA]
        have hoff : A.off = { A with on := false, armed := -1 } := by unfold DkD.off; rw [h.is]; simp [h.on]
        refine .inr ⟨rfl, rfl, rfl, by omega, hw, ?_, ?_, ?_⟩
        · show A.off.on = false
          rw [hoff]
        · show A.off.writes = n
          rw [hoff, h.is]
          exact hw
        · show A.off.files = D.files
          rw [hoff, h.is]
      · have hA : A.act 0 fs = (0, A.done fs) := act_done (by rw [h.is]; simp [hn]; omega) fs
        have hAd : A.done fs = { D.done fs with armed := if n < 0 then -1 else n - (D.writes + 1) } := by
          rw [h.is]
          unfold DkD.done
          simp only [if_neg hn]
          congr 1
          omega
        rw [hD, hA]
        refine .inl ⟨rfl, ?_, .inr ⟨rfl, .inr hw⟩⟩
        show Mate n (D.done fs) (A.done fs)
        rw [hAd]
        exact hDm (.inr (by omega))
  · rw [act_err he, act_err he]
    exact .inl ⟨rfl, h, .inl rfl⟩

theorem mate_actK {n : Int} {D A : DkD} (h : Mate n D A) (o : OpK) : Stays n D (actK D o).2 (actK A o).2 (actK D o).1 (actK A o).1 ∨ Falls n D (actK D o).2 (actK A o).2 (actK D o).1 (actK A o).1 := by
  have hf : A.files = D.files := by rw [h.is]
  have e1 : A.errA o.name o.p.length = D.errA o.name o.p.length := by rw [h.is]; rfl
  have e2 : A.errO o.name = D.errO o.name := by rw [h.is]; rfl
  have e3 : A.errC o.name o.n = D.errC o.name o.n := by rw [h.is]; rfl
  have e4 : A.errR o.name o.dest = D.errR o.name o.dest := by rw [h.is]; rfl
  unfold actK
  rw [e1, e2, e3, e4, hf]
  split
  · exact mate_act h _ _
  · split
    · exact mate_act h _ _
    · split
      · exact mate_act h _ _
      · split
        · exact mate_act h _ _
        · split
          · exact mate_act h _ _
          · exact .inl ⟨rfl, h, .inl rfl⟩

theorem mate_new (room n : Int) : Mate n (newD room) ((newD room).arm n) := by
  refine ⟨rfl, rfl, ?_, ?_⟩
  · unfold DkD.arm
    rw [if_pos rfl]
    congr 1
    show max n (-1) = if n < 0 then -1 else n - 0
    split <;> omega
  · show n < 0 ∨ (0 : Int) ≤ n
    omega

/-- Two disks that were made behind w, some calls later, with nothing in common. -/
structure Two (w : World) (p q : Nat) (wr : World) (fv : Value) (ms : List FiM) (D : DkD) (gv : Value) (ns : List FiM) (A : DkD) (k : Nat) : Prop where
  one : Run w p wr fv ms D k
  two : Run w q wr gv ns A k
  apart : ∀ j ∈ foot p fv ms, j ∉ foot q gv ns

theorem Two.swap {w : World} {p q : Nat} {wr : World} {fv gv : Value} {ms ns : List FiM} {D A : DkD} {k : Nat} (h : Two w p q wr fv ms D gv ns A k) : Two w q p wr gv ns A fv ms D k :=
  ⟨h.two, h.one, fun j hj e => h.apart j e hj⟩

theorem Run.more {w : World} {p : Nat} {wr : World} {fv : Value} {ms : List FiM} {D : DkD} {k k' : Nat} (h : Run w p wr fv ms D k) (hk : k ≤ k') : Run w p wr fv ms D k' :=
  ⟨h.is, h.ok, by have := h.writes; omega, h.bel, h.apart⟩

theorem Two.to {w : World} {p q : Nat} {wr wr' : World} {fv fv' gv : Value} {ms ms' ns : List FiM} {D D' A : DkD} {k k' : Nat} (h : Two w p q wr fv ms D gv ns A k) (ht : DkTo wr p fv ms wr' D' fv' ms') (ok : DkOk D') (hw : D'.writes ≤ k') (hk : k ≤ k') : Two w p q wr' fv' ms' D' gv ns A k' := by
  have h1 : Run w p wr' fv' ms' D' k' := h.one.to ht ok hw
  refine ⟨h1, ⟨h.two.is.kept ht.kept (fun j hj e => h.apart j e hj), h.two.ok, by have := h.two.writes; omega, h1.bel, h.two.apart⟩, fun j hj e => ?_⟩
  rcases ht.foot j hj with e' | e'
  · exact h.apart j e' e
  · have := h.two.is.lt e
    omega

theorem Two.later {w : World} {p q : Nat} {wr wr' : World} {fv gv : Value} {ms ns : List FiM} {D A : DkD} {k : Nat} (h : Two w p q wr fv ms D gv ns A k) (hb : Below wr.heap.size wr wr') : Two w p q wr' fv ms D gv ns A k :=
  ⟨h.one.later hb, h.two.later hb, h.apart⟩
end Go.Proofs.YtbdokdhconhifaaGreatDoor
