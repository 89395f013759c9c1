/- A list of calls and a list of numbers that came in, opened: what the statement's reading says of their cells; no Go function is walked here. -/
import Derived.Test.YtbdokdhconhifaaGreatDoorDkRJ
import Derived.Deep.Slices
import Derived.SizedLaws
import Derived.ProofKit
import Derived.OpenShut
import Derived.ShutString
import Derived.ChangeOld
import Derived.Test.YtbdokdhconhifaaGreatDoorDlDJ
namespace Go.Proofs.YtbdokdhconhifaaGreatDoor
open Go.ChangeShapes Go.WideShapes Go.ChangeAt Go.RowKit
set_option maxRecDepth 8000

theorem Tryz.own : ownKnob Tryz.prog.godebug = none := by kernel_rfl
theorem Tryz.laidOut : laidOutB Tryz.prog = true := by kernel_rfl

theorem addK (b off n : Nat) : (⟨b, off, none⟩ : Addr).add n = ⟨b, off + n, none⟩ := by
  by_cases h : n = 0
  · subst h; simp [Addr.add]
  · simp [Addr.add, h]

theorem seesK_nil (w : World) : Sees w (.slice none 0 0) [] := ⟨none, 0, rfl, Nat.le_refl _, by unfold maxLen; omega, fun _ => rfl, .inl rfl⟩
theorem seesN_nil (w : World) : SeesN w (.slice none 0 0) [] := ⟨none, 0, rfl, Nat.le_refl _, by unfold maxLen; omega, .inl rfl⟩

theorem reachK : reachBytes ≤ 140737488355328 := by
  have hr := reachBytes_lt
  have h47 : (2 : Nat) ^ 47 = 140737488355328 := by decide
  omega

section
variable {H : Type} {enc : TypeId × Value → H} {W : World} {base : Nat} {spare : Nat → Bool} {held : Bool}

/-- A list of bytes inside a cell. -/
theorem open_bytesK {fuel : Nat} {v : Value} {x : DataW H × List MemPlace} (h : DataW.trod enc Tryz.prog W base spare held fuel 58 [v] = some x) (hw : (x.1.weights Tryz.prog 58).all (· ≤ reachBytes) = true) :
    ∃ (ao : Option Addr) (cap : Nat) (ys : List Int), v = .slice ao ys.length cap ∧ Sees W (.slice ao ys.length cap) ys ∧ (ys ≠ [] → ∀ k, (Value.slice ao ys.length cap).ownBlock = some k → k < W.heap.size) ∧ ys.length ≤ 140737488355328 := by
  rcases open_ints Tryz.underlying58 Tryz.underlying5 (by kernel_rfl) h with ⟨hcs, _⟩ | ⟨a, l, c, zs, hcs, _, hl, hm, hz, hx, hcell, hwz⟩
  · simp at hcs
    subst hcs
    exact ⟨none, 0, [], rfl, seesK_nil W, fun e => absurd rfl e, Nat.zero_le _⟩
  · simp at hcs
    subst hcs
    have hlz : l ≤ zs.length := by rw [hz]; split <;> omega
    have hlen : (zs.take l).length = l := by simp; omega
    refine ⟨some a, c, zs.take l, by rw [hlen], ?_, ?_, ?_⟩
    · refine ⟨some a, c, rfl, by omega, hm, fun e => by simp at e, ?_⟩
      by_cases h0 : l = 0
      · subst h0; exact .inl (by simp)
      · obtain ⟨b, off, spot⟩ := a
        have hc := hcell 0 (by omega)
        have hspot : spot = none := by simpa [Addr.add] using World.cell?_spot hc
        subst hspot
        refine .inr ⟨b, off, rfl, fun i hi => ?_⟩
        have := hcell i (by omega)
        rw [addK] at this
        rw [this]
        have hi' : i < l := by omega
        simp [List.getD_eq_getElem?_getD, hi']
    · intro hne k hk
      have h0 : l ≠ 0 := fun e => hne (by rw [e]; rfl)
      have hc := World.block_lt_of_cell? W _ (hcell 0 (by omega))
      have e : (a.add 0).block = a.block := by simp [Addr.add]
      have hk' : a.block = k := by simpa [Value.ownBlock] using hk
      rw [e, hk'] at hc
      exact hc
    · have hb1 : Tryz.prog.bytesOf 5 = 1 := by kernel_rfl
      rw [hx] at hw
      simp only [DataW.weights, Tryz.underlying58, hb1, List.all_cons, Bool.and_eq_true, decide_eq_true_eq] at hw
      have h1 := hw.1
      have h2 : (lits (H := H) .u8 (zs.take l)).length = (zs.take l).length := by simp [lits]
      have := reachK
      omega

/-- A list of numbers. -/
theorem open_numsK {fuel : Nat} {v : Value} {x : DataW H × List MemPlace} (h : DataW.trod enc Tryz.prog W base spare held fuel 125 [v] = some x) (hw : (x.1.weights Tryz.prog 125).all (· ≤ reachBytes) = true) :
    ∃ (ao : Option Addr) (cap : Nat) (ks : List Int), v = .slice ao ks.length cap ∧ SeesN W (.slice ao ks.length cap) ks ∧ (ks ≠ [] → ∀ k, (Value.slice ao ks.length cap).ownBlock = some k → k < W.heap.size) ∧ ks.length ≤ 140737488355328 := by
  rcases open_ints Tryz.underlying125 Tryz.underlying3 (by kernel_rfl) h with ⟨hcs, _⟩ | ⟨a, l, c, zs, hcs, _, hl, hm, hz, hx, hcell, hwz⟩
  · simp at hcs
    subst hcs
    exact ⟨none, 0, [], rfl, seesN_nil W, fun e => absurd rfl e, Nat.zero_le _⟩
  · simp at hcs
    subst hcs
    have hlz : l ≤ zs.length := by rw [hz]; split <;> omega
    have hlen : (zs.take l).length = l := by simp; omega
    refine ⟨some a, c, zs.take l, by rw [hlen], ?_, ?_, ?_⟩
    · refine ⟨some a, c, rfl, by omega, hm, ?_⟩
      by_cases h0 : l = 0
      · subst h0; exact .inl (by simp)
      · obtain ⟨b, off, spot⟩ := a
        have hc := hcell 0 (by omega)
        have hspot : spot = none := by simpa [Addr.add] using World.cell?_spot hc
        subst hspot
        refine .inr ⟨b, off, rfl, fun i hi => ?_⟩
        have := hcell i (by omega)
        rw [addK] at this
        rw [this]
        have hi' : i < l := by omega
        simp [List.getD_eq_getElem?_getD, hi']
    · intro hne k hk
      have h0 : l ≠ 0 := fun e => hne (by rw [e]; rfl)
      have hc := World.block_lt_of_cell? W _ (hcell 0 (by omega))
      have e : (a.add 0).block = a.block := by simp [Addr.add]
      have hk' : a.block = k := by simpa [Value.ownBlock] using hk
      rw [e, hk'] at hc
      exact hc
    · have hb1 : Tryz.prog.bytesOf 3 = 8 := by kernel_rfl
      rw [hx] at hw
      simp only [DataW.weights, Tryz.underlying125, hb1, List.all_cons, Bool.and_eq_true, decide_eq_true_eq] at hw
      have h1 := hw.1
      have h2 : (lits (H := H) .i64 (zs.take l)).length = (zs.take l).length := by simp [lits]
      have := reachK
      omega

theorem weightsK_all {P : Program} {e : TypeId} : ∀ {ds : List (DataW H)} {d : DataW H}, d ∈ ds → ∀ n ∈ d.weights P e, n ∈ DataW.weightsAll P e ds
  | d0 :: ds, d, hd, n, hn => by
    simp only [DataW.weightsAll, List.mem_append]
    rcases List.mem_cons.1 hd with rfl | hd
    · exact .inl hn
    · exact .inr (weightsK_all hd n hn)

instance : Inhabited OpK := ⟨⟨0, ⟨#[]⟩, ⟨#[]⟩, none, 0, [], 0, none, 0, []⟩⟩

end
end Go.Proofs.YtbdokdhconhifaaGreatDoor

/- A list of files that came in, opened: what the statement's reading says of its cells; no Go function is walked here. -/
namespace Go.Proofs.YtbdokdhconhifaaGreatDoor
open Go.ChangeShapes Go.WideShapes Go.ChangeAt Go.RowKit
set_option maxRecDepth 8000

/-- One file, as data, with the slice of its bytes. -/
structure FlK where
  name : ByteArray
  pa : Option Addr
  pc : Nat
  p : List Int
  dur : Int

def FlK.pv (o : FlK) : Value := .slice o.pa o.p.length o.pc
def FlK.cells (o : FlK) : List Value := [.string o.name, .slice o.pa o.p.length o.pc, .int .i64 o.dur]

/-- What holds of a file in memory, all of it below n. -/
structure GoodFl (w : World) (n : Nat) (o : FlK) : Prop where
  see : Sees w o.pv o.p
  pl : o.p.length ≤ 140737488355328
  nl : o.name.size ≤ 140737488355328
  pb : o.p ≠ [] → ∀ k, o.pv.ownBlock = some k → k < n
  d0 : -9223372036854775808 ≤ o.dur
  d1 : o.dur ≤ 9223372036854775807

theorem GoodFl.kept {w w' : World} {S : Nat → Prop} {n : Nat} {o : FlK} (h : GoodFl w n o) (hk : Kept w w' S) (hS : ∀ k, k < n → ¬ S k) : GoodFl w' n o :=
  ⟨h.see.keptN hk (fun hy k e => hS k (h.pb hy k e)), h.pl, h.nl, h.pb, h.d0, h.d1⟩

def SeesFls (w : World) (n : Nat) (v : Value) (l : List FlK) : Prop :=
  (∃ a c, v = .slice a l.length c ∧ l.length ≤ c ∧ c ≤ maxLen ∧ (l = [] ∨ ∃ b off, a = some ⟨b, off, none⟩ ∧ b < n ∧ ∀ (i : Nat) (h : i < l.length), w.rangeAt b (off + i * 3) l[i].cells)) ∧ ∀ o ∈ l, GoodFl w n o

section
variable {H : Type} {enc : TypeId × Value → H} {W : World} {base : Nat} {spare : Nat → Bool} {held : Bool}

theorem open_flK {fuel : Nat} {cs : List Value} {x : DataW H × List MemPlace} (h : DataW.trod enc Tryz.prog W base spare held fuel 71 cs = some x) (hw : (x.1.weights Tryz.prog 71).all (· ≤ reachBytes) = true) :
    ∃ o : FlK, cs = o.cells ∧ GoodFl W W.heap.size o := by
  have hcells : Tryz.prog.cellsOf 71 = 3 := by kernel_rfl
  obtain ⟨xs, n, _, hx, hl, hxl, hf⟩ := DataW.trod_struct Tryz.underlying71 h
  rw [hcells] at hl
  have q1 : Tryz.prog.cellsOf 3 = 1 := by kernel_rfl
  have q4 : Tryz.prog.cellsOf 9 = 1 := by kernel_rfl
  have q5 : Tryz.prog.cellsOf 58 = 1 := by kernel_rfl
  have g0 : DataW.trod enc Tryz.prog W base spare held n 9 ((cs.drop 0).take (Tryz.prog.cellsOf 9)) = xs[0]? := hf 0 _ rfl
  have g1 : DataW.trod enc Tryz.prog W base spare held n 58 ((cs.drop 1).take (Tryz.prog.cellsOf 58)) = xs[1]? := hf 1 _ rfl
  have g2 : DataW.trod enc Tryz.prog W base spare held n 3 ((cs.drop 2).take (Tryz.prog.cellsOf 3)) = xs[2]? := hf 2 _ rfl
  have hxl3 : xs.length = 3 := hxl
  clear hf hxl
  match xs, hxl3, cs, hl with
  | [y0, y1, y2], _, [v0, v1, v2], _ =>
    rw [q4] at g0
    rw [q5] at g1
    rw [q1] at g2
    rw [hx] at hw
    simp only [DataW.weights, Tryz.underlying71] at hw
    have hm : ∀ (j : Nat) (t : TypeId) (d : DataW H), ([9, 58, 3] : List TypeId)[j]? = some t → ([y0.1, y1.1, y2.1] : List (DataW H))[j]? = some d → (d.weights Tryz.prog t).all (· ≤ reachBytes) = true := by
      intro j t d ht hd
      rw [List.all_eq_true] at hw ⊢
      intro m hm
      exact hw m (DataW.weights_mem_each (ts := [9, 58, 3]) ht hd m hm)
    have hw0 := hm 0 _ _ rfl rfl
    obtain ⟨s, e0, d0, _⟩ := DataW.trod_string Tryz.underlying9 (show DataW.trod enc Tryz.prog W base spare held n 9 [v0] = some y0 from g0)
    obtain ⟨ao, cap, ys, e1, hs, hsb, hsl⟩ := open_bytesK (show DataW.trod enc Tryz.prog W base spare held n 58 [v1] = some y1 from g1) (hm 1 _ _ rfl rfl)
    obtain ⟨m, e2, _, w2⟩ := DataW.trod_int Tryz.underlying3 (show DataW.trod enc Tryz.prog W base spare held n 3 [v2] = some y2 from g2)
    simp at e0 e2
    subst e0 e1 e2
    rw [d0] at hw0
    simp [DataW.weights] at hw0
    have := reachK
    exact ⟨⟨s, ao, cap, ys, m⟩, rfl, ⟨hs, hsl, by show s.size ≤ _; omega, hsb, (bounds_i64 w2).1, (bounds_i64 w2).2⟩⟩

instance : Inhabited FlK := ⟨⟨⟨#[]⟩, none, 0, [], 0⟩⟩

/-- A list of files that came in. -/
theorem open_flsK {fuel : Nat} {v : Value} {x : DataW H × List MemPlace} (h : DataW.trod enc Tryz.prog W base spare held fuel 22 [v] = some x)
    (hw : (x.1.weights Tryz.prog 22).all (· ≤ reachBytes) = true) :
    ∃ os : List FlK, SeesFls W W.heap.size v os ∧ os.length ≤ 140737488355328 := by
  have hcells : Tryz.prog.cellsOf 71 = 3 := by kernel_rfl
  rcases Deep.open_slice Tryz.underlying22 h with ⟨hcs, _⟩ | ⟨a', len, cap, m, n, D, Pl, hcs, _, hl, hm, hmm, hx, hel⟩
  · simp at hcs
    subst hcs
    exact ⟨[], ⟨⟨none, 0, rfl, Nat.le_refl _, by unfold maxLen; omega, .inl rfl⟩, fun o ho => by simp at ho⟩, Nat.zero_le _⟩
  · simp at hcs
    subst hcs
    have hlm : len ≤ m := by rw [hmm]; split <;> omega
    have hbo : Tryz.prog.bytesOf 71 = 48 := by kernel_rfl
    rw [hx] at hw
    simp only [DataW.weights, Tryz.underlying22, hbo, List.all_cons, List.all_append, Bool.and_eq_true, decide_eq_true_eq] at hw
    have hwd : ∀ i, i < len → ((D i).weights Tryz.prog 71).all (· ≤ reachBytes) = true := by
      intro i hi
      have := hw.2.1
      rw [List.all_eq_true] at this ⊢
      intro q hq
      exact this q (weightsK_all (List.mem_map.2 ⟨i, List.mem_range.2 hi, rfl⟩) q hq)
    have each : ∀ i, i < len → ∃ o : FlK, GoodFl W W.heap.size o ∧ ∀ j, j < 3 → W.cell? (a'.add (i * 3 + j)) = o.cells[j]? := by
      intro i hi
      obtain ⟨cs', h1, h2⟩ := hel i (by omega)
      rw [hcells] at h1
      obtain ⟨_, hlen, hcell⟩ := World.cells?_some h1
      obtain ⟨o, e, hg⟩ := open_flK h2 (hwd i hi)
      refine ⟨o, hg, fun j hj => ?_⟩
      have := hcell j hj
      rw [Deep.add_add] at this
      rw [← e, this]
    obtain ⟨O, hO⟩ := Deep.choose_lt each
    have hol : ((List.range len).map O).length = len := by simp
    refine ⟨(List.range len).map O, ⟨⟨some a', cap, by rw [hol], by omega, hm, ?_⟩, fun o ho => ?_⟩, ?_⟩
    · by_cases h0 : len = 0
      · subst h0; exact .inl rfl
      · obtain ⟨b, off, spot⟩ := a'
        have hc' : W.cell? ((⟨b, off, spot⟩ : Addr).add (0 * 3 + 0)) = some (.string (O 0).name) := (hO 0 (by omega)).2 0 (by omega)
        have hspot : spot = none := by simpa [Addr.add] using World.cell?_spot hc'
        subst hspot
        have hbl := World.block_lt_of_cell? W _ hc'
        rw [addK] at hbl
        refine .inr ⟨b, off, rfl, hbl, fun i hi j x hj => ?_⟩
        rw [hol] at hi
        have c := (hO i hi).2
        simp only [addK] at c
        simp only [List.getElem_map, List.getElem_range] at hj
        have hj3 : j < 3 := by
          have := (List.getElem?_eq_some_iff.1 hj).1
          exact this
        rw [Nat.add_assoc, c j hj3, hj]
    · obtain ⟨i, hi, rfl⟩ := List.mem_map.1 ho
      exact (hO i (List.mem_range.1 hi)).1
    · rw [hol]
      have h1 := hw.1
      simp at h1
      have := reachK
      omega

end
end Go.Proofs.YtbdokdhconhifaaGreatDoor

/- From of every list of files. -/
namespace Go.Proofs.YtbdokdhconhifaaGreatDoor
open Go.RowKit Go.Shelf
set_option maxRecDepth 8000

def FlK.fi (o : FlK) : FiD := ⟨o.name, o.p, o.dur⟩

/-- The files taken one by one: why one is refused, or the disk of all. -/
def takeL (D : DkD) : List FiD → Int × DkD
  | [] => (0, D)
  | f :: fs => if D.errT f = 0 then takeL { D with files := insF D.files f } fs else (D.errT f, D)

theorem errT_zero {D : DkD} {f : FiD} (h : D.errT f = 0) : isNm f.name = true ∧ hasF D.files f.name = false ∧ D.files.length ≤ 63 ∧ (0 ≤ f.dur ∧ f.dur ≤ f.bytes.length) ∧ (f.bytes.length : Int) ≤ D.room - usedD D.files := by
  unfold DkD.errT at h
  by_cases h1 : isNm f.name = false ∨ hasF D.files f.name = true ∨ 64 ≤ D.files.length
  · rw [if_pos h1] at h; simp at h
  · rw [if_neg h1] at h
    by_cases h2 : f.dur < 0 ∨ (f.bytes.length : Int) < f.dur
    · rw [if_pos h2] at h; simp at h
    · rw [if_neg h2] at h
      by_cases h3 : (f.bytes.length : Int) ≤ D.room - usedD D.files
      · refine ⟨?_, ?_, ?_, ?_, h3⟩
        · cases e : isNm f.name
          · exact absurd (.inl e) h1
          · rfl
        · cases e : hasF D.files f.name
          · rfl
          · exact absurd (.inr (.inl e)) h1
        · by_cases e : 64 ≤ D.files.length
          · exact absurd (.inr (.inr e)) h1
          · omega
        · omega
      · rw [if_neg h3] at h; simp at h

theorem take_ok {D : DkD} (ok : DkOk D) {f : FiD} (h : D.errT f = 0) : DkOk { D with files := insF D.files f } := by
  obtain ⟨a, b, c, d, e⟩ := errT_zero h
  exact ok.with rfl (ok.fok.ins f b c a d (by show (usedD D.files : Int) + f.bytes.length ≤ D.room; omega)) ok.a0 ok.a1 ok.w0

set_option maxHeartbeats 2000000 in
theorem from_any {w : World} (room : Int) (v : Value) (l : List FlK) (hl : SeesFls w w.heap.size v l) (h0 : 0 ≤ room) (h1 : room ≤ 16777216) :
    Calls Tryz.prog 5 #[.int .i64 room, v] w fun e w' => ((takeL (newD room) (l.map FlK.fi)).1 = 0 ∧ e = .returned (.tuple #[.pointer (some ⟨w.heap.size, 0, none⟩), .int .i64 0]) ∧ ∃ fv ms, Run w w.heap.size w' fv ms (takeL (newD room) (l.map FlK.fi)).2 0) ∨ ((takeL (newD room) (l.map FlK.fi)).1 ≠ 0 ∧ e = .returned (.tuple #[.pointer none, .int .i64 (takeL (newD room) (l.map FlK.fi)).1]) ∧ Below w.heap.size w w') := by
  have hd1 : decide (room < 0) = false := decide_eq_false (by omega)
  have hd2 : decide (room > 16777216) = false := decide_eq_false (by omega)
  obtain ⟨⟨sa, sc, rfl, hsc, hscm, _⟩, _⟩ := id hl
  unfold maxLen at hscm
  have HL : Hid (SeesFls w w.heap.size (.slice sa l.length sc) l) := hl
  obtain ⟨V, eV⟩ : ∃ V, V = w.alloc (.cells (dkQ (.slice none 0 0) room true (-1) 0) 76) := ⟨_, rfl⟩
  have H0 : Hid (Run w w.heap.size V (.slice none 0 0) [] (newD room) 0) := by
    rw [eV]
    refine ⟨isDk_new w room, dkOk_new room h0 h1, by simp, one_allocK _ _, fun j hj => ?_⟩
    simp [foot, Value.ownBlock] at hj
    omega
  have HE : Hid _ := eV
  obtain ⟨r, hr⟩ : ∃ r, r = takeL (newD room) (l.map FlK.fi) := ⟨_, rfl⟩
  rw [← hr]
  have HR : Hid _ := hr
  clear hl eV hr
  go_enter Tryz.func5, Tryz.ntmps5
  go_wp2_with fail
  go_loopw [21] (fun vi wr => ∃ i : Nat, i ≤ l.length ∧ vi = .int .i64 i ∧ Hid (∃ fv ms D, Run w w.heap.size wr fv ms D 0 ∧ r = takeL D ((l.drop i).map FlK.fi))) (fun vi _ => l.length - (intOf vi).toNat)
  case atStart => exact ⟨0, Nat.zero_le _, rfl, ⟨_, _, _, by have := H0.out; rw [HE.out] at this; exact this, HR.out⟩⟩
  case round =>
    obtain ⟨i, hi, rfl, HI⟩ := hrel
    obtain ⟨fv, ms, D, hrun, hrr⟩ := HI.out
    have HU : Hid _ := hrun
    have hpw := lt_of_block hrun.is.row
    by_cases hlt : i < l.length
    · rw [List.drop_eq_getElem_cons hlt, List.map_cons] at hrr
      have HRR : Hid _ := hrr
      clear hrun HI H0 HE HR hrr
      obtain ⟨⟨_, _, esl, _, _, h0' | ⟨b, off, e2, hb, hrg⟩⟩, hgo⟩ := id HL.out
      · rw [h0'] at hlt; simp at hlt
      have e3 : sa = some ⟨b, off, none⟩ := by
        have := (Value.slice.inj esl).1
        rw [this]; exact e2
      subst e3
      have hg := hgo l[i] (List.getElem_mem hlt)
      have hr3 : wr.rangeAt b (off + i * 3) l[i].cells := fun j x hj => cell_later (hrg i hlt j x hj) HU.out.bel (Nat.le_refl _)
      have HNX : Hid (∀ D', D'= l.drop (i + 1) → D' = l.drop (i + 1)) := fun _ e => e
      generalize l[i] = o at *
      clear hrg hgo esl e2 HNX
      have hg' : GoodFl wr w.heap.size o := hg.kept (Below.kept HU.out.bel) (fun j hj e => by omega)
      have hpll := hg.pl
      unfold FlK.cells at hr3
      have hsz3 : (Tryz.prog.info? 71).map (·.size) = some [Value.string o.name, .slice o.pa o.p.length o.pc, .int .i64 o.dur].length := Tryz.fileSz
      obtain ⟨pc0, pcm⟩ : o.p.length ≤ o.pc ∧ o.pc ≤ 9223372036854775807 := by
        obtain ⟨_, _, e, a, c, _⟩ := hg.see
        unfold FlK.pv at e
        obtain ⟨_, _, rfl⟩ := Value.slice.inj e
        unfold maxLen at c
        exact ⟨a, by omega⟩
      have hb2 : Below wr.heap.size wr (wr.alloc (.cells #[.string o.name, .slice o.pa o.p.length o.pc, .int .i64 o.dur] 71)) := one_allocK _ _
      have hru := HU.out.later hb2
      have hsee : Sees (wr.alloc (.cells #[.string o.name, .slice o.pa o.p.length o.pc, .int .i64 o.dur] 71)) (.slice o.pa o.p.length o.pc) o.p := hg'.see.below hb2 (Nat.le_refl _)
      by_cases he : D.errT o.fi = 0
      · obtain ⟨t1, t2, t3, t4, t5⟩ := errT_zero he
        have HT : Hid _ := take_yes hru.is hru.ok o.fi (.slice o.pa o.p.length o.pc) hsee (fun hy k e => hru.free k (hg'.pb hy k e)) t1 t2 t3 t4 t5
        have HRN : Hid (r = takeL { D with files := insF D.files o.fi } ((l.drop (i + 1)).map FlK.fi)) := by
          have := HRR.out
          unfold takeL at this
          rw [if_pos he] at this
          exact this
        have HR2 : Hid (Run w w.heap.size (wr.alloc (.cells #[.string o.name, .slice o.pa o.p.length o.pc, .int .i64 o.dur] 71)) fv ms D 0 ∧ DkOk { D with files := insF D.files o.fi }) := ⟨hru, take_ok hru.ok he⟩
        unfold FlK.fi at HT
        clear hg hg' hb2 hru hsee he t1 t2 t3 t4 t5 HRR HU
        go_wp2_with (refine wpList_load_mid rfl 71 _ rfl b (off + i * 3) rfl [.string o.name, .slice o.pa o.p.length o.pc, .int .i64 o.dur] _ hr3 Tryz.underlying71 rfl hsz3 ?_)
        refine Calls.mono HT.out ?_
        rintro e w4 ⟨rfl, fv4, ms4, ht4⟩
        have H4 : Hid (Run w w.heap.size w4 fv4 ms4 { D with files := insF D.files o.fi } 0) := HR2.out.1.to ht4 HR2.out.2 HR2.out.1.writes
        clear ht4 HT HR2 hr3 hsz3
        go_wp2_with fail
        go_roundw
        case rel => exact ⟨i + 1, by omega, by go_num, ⟨_, _, _, H4.out, HRN.out⟩⟩
        case measure => simp [intOf]; omega
      · have HT : Hid _ := take_no hru.is hru.ok o.fi (.slice o.pa o.p.length o.pc) hsee he
        have hrn : r = (D.errT o.fi, D) := by
          have := HRR.out
          unfold takeL at this
          rw [if_neg he] at this
          exact this
        obtain ⟨E, hE⟩ : ∃ E, E = D.errT o.fi := ⟨_, rfl⟩
        have HB3 : Hid _ := hru.bel
        rw [← hE] at HT he hrn
        have heb : (E != 0) = true := by simpa using he
        have HRN : Hid (r = (E, D) ∧ E ≠ 0) := ⟨hrn, he⟩
        unfold FlK.fi at HT
        clear hg hg' hb2 hru hsee he hE hrn HRR HU
        go_wp2_with (refine wpList_load_mid rfl 71 _ rfl b (off + i * 3) rfl [.string o.name, .slice o.pa o.p.length o.pc, .int .i64 o.dur] _ hr3 Tryz.underlying71 rfl hsz3 ?_)
        refine Calls.mono HT.out ?_
        rintro e w4 ⟨rfl, hb4⟩
        have H4 : Hid (Below w.heap.size w w4) := Below.step HB3.out hb4
        clear hb4 HT HB3 hr3 hsz3
        go_wp2_with fail
        go_ret2
        refine .inr ⟨?_, ?_, H4.out⟩
        · rw [HRN.out.1]; exact HRN.out.2
        · rw [HRN.out.1]; rfl
    · obtain rfl : i = l.length := by omega
      rw [List.drop_length, List.map_nil] at hrr
      have HRR : Hid (r = (0, D)) := hrr
      clear hrun HI H0 HE HR hrr
      go_wp2_with fail
      go_ret2
      refine .inl ⟨by rw [HRR.out], rfl, fv, ms, ?_⟩
      rw [HRR.out]
      exact HU.out
end Go.Proofs.YtbdokdhconhifaaGreatDoor
