/- What the small parts of txn.Check answer: isZxid, isOrigin, the layouts, names, bit, filled, needed. -/
import Derived.Test.YtoeialngbbfoeaaGreatDoorLeafSumJ
import Derived.Lib.LaidTab
import Derived.Deep.RegionHeld
import Derived.BigQuiet
namespace Go.Proofs.YtoeialngbbfoeaaGreatDoor
open Go.RowKit
set_option maxRecDepth 8000

def zxOk (e n : Int) : Bool := decide ((e = 0 ∧ n = 0) ∨ (1 ≤ e ∧ e ≤ 2147483647 ∧ 1 ≤ n))

set_option maxHeartbeats 400000 in
theorem isZxid_any (e n : Int) (w : World) (h0 : 0 ≤ e) (h2 : 0 ≤ n) :
    Calls Tryz.prog 106 #[zx e n] w fun r w' => r = .returned (.bool (zxOk e n)) ∧ Below w.heap.size w w' := by
  have hg : Tryz.prog.eqGuardType Tryz.prog.depth 24 = false := by kernel_rfl
  have hB := one_alloc w
  have hq := eqZx e n 0 0
  by_cases hz : e = 0 ∧ n = 0
  · rw [decide_eq_true hz] at hq
    have hr : zxOk e n = true := by unfold zxOk; simp [hz]
    obtain ⟨rfl, rfl⟩ := hz
    rw [hr]
    clear h0 h2 hr
    go_enter Tryz.func106, Tryz.ntmps106
    go_wp2
    go_ret
    exact ⟨rfl, hB _⟩
  · rw [decide_eq_false hz] at hq
    have hr : zxOk e n = decide (1 ≤ e ∧ e ≤ 2147483647 ∧ 1 ≤ n) := by
      unfold zxOk; congr 1; simp; exact fun h1 h2 => absurd ⟨h1, h2⟩ hz
    rw [hr]
    have HZ : Hid (¬ (e = 0 ∧ n = 0)) := hz
    clear hz hr
    go_enter Tryz.func106, Tryz.ntmps106
    go_wp2_with fail
    refine (isEpoch_any e _ h0).mono ?_
    rintro r w1 ⟨rfl, rfl⟩
    by_cases he : 1 ≤ e ∧ e ≤ 2147483647
    · rw [decide_eq_true he]
      go_wp2
      go_ret
      refine ⟨?_, hB _⟩
      simp [he]
    · rw [decide_eq_false he]
      go_wp2
      go_ret
      refine ⟨?_, hB _⟩
      have hf : decide (1 ≤ e ∧ e ≤ 2147483647 ∧ 1 ≤ n) = false := by simp; omega
      rw [hf]
      rfl

abbrev orig (s b m : Int) : Value := .agg #[.int .i8 s, .int .u32 b, .int .i64 m]
def origOk (s m : Int) : Bool := decide (0 ≤ s ∧ s < 7 ∧ 0 ≤ m)

set_option maxHeartbeats 400000 in
theorem isOrigin_any (s b m : Int) (w : World) :
    Calls Tryz.prog 107 #[orig s b m] w fun r w' => r = .returned (.bool (origOk s m)) ∧ Below w.heap.size w w' := by
  have hB := one_alloc w
  go_enter Tryz.func107, Tryz.ntmps107
  go_wp2
  all_goals (go_ret; refine ⟨?_, hB _⟩; unfold origOk; simp [*]; try omega)

abbrev lay (last wo : Int) : Value := .agg #[.int .i8 last, .int .u16 wo]

theorem proposed_any (w : World) : Calls Tryz.prog 56 #[] w fun r w' => r = .returned (lay 8 0) ∧ Below w.heap.size w w' := by
  have hB := one_alloc w
  go_enter Tryz.func56, Tryz.ntmps56
  go_wp2
  exact bodyPost_ret (v := lay 8 0) (by simp [results, Tryz.results56, go_sem]) rfl ⟨rfl, hB _⟩

theorem within_any (w : World) : Calls Tryz.prog 121 #[] w fun r w' => r = .returned (lay 5 320) ∧ Below w.heap.size w w' := by
  have hB := one_alloc w
  go_enter Tryz.func121, Tryz.ntmps121
  go_wp2
  exact bodyPost_ret (v := lay 5 320) (by simp [results, Tryz.results121, go_sem]) rfl ⟨rfl, hB _⟩

/-- A field's bit, where it is on. -/
def bz (n : Int) (b : Bool) : Int := if b then n else 0

theorem bit_any (n : Int) (b : Bool) (w : World) :
    Calls Tryz.prog 156 #[.int .u16 n, .bool b] w fun r w' => r = .returned (.int .u16 (bz n b)) ∧ w' = w := by
  go_enter Tryz.func156, Tryz.ntmps156
  cases b <;> go_wp2 <;> (go_ret; exact ⟨rfl, rfl⟩)

def need (k : Int) : Int := if k = 6 then 512 else if k = 7 then 128 else if k = 8 then 64 else 0

theorem needed_any (k : Int) (w : World) :
    Calls Tryz.prog 138 #[.int .i8 k] w fun r w' => r = .returned (.int .u16 (need k)) ∧ w' = w := by
  go_enter Tryz.func138, Tryz.ntmps138
  go_wp2
  all_goals (go_ret; refine ⟨?_, rfl⟩; unfold need; simp at *; simp [*])

/-- The table of what each kind names stands. -/
def Nam (w : World) : Prop := Lib.TabIs Tryz.prog w "lagoon/txn.named" .u16 [0, 375, 329, 331, 333, 329, 832, 128, 64, 321, 321, 321, 321]
theorem nam_global : Tryz.prog.globalNamed "lagoon/txn.named" = some 0 := by kernel_rfl
theorem Nam.below {B : Nat} {w w' : World} (h : Nam w) (hb : Below B w w') (hB : 0 < B) : Nam w' := var?_below hb nam_global hB h
theorem Nam.lt {w : World} (h : Nam w) : 0 < w.heap.size := by
  have := World.block_lt_of_cell? w _ (Lib.TabIs.cell h nam_global 0 (by decide)); simpa using this

def tabN (k : Int) : Int := ([0, 375, 329, 331, 333, 329, 832, 128, 64, 321, 321, 321, 321] : List Int).getD k.toNat 0

/-- What a kind names there. -/
def nms (last wo k : Int) : Int := if k < 1 ∨ last < k then 0 else bits .andNot .u16 (tabN k) wo

set_option maxHeartbeats 400000 in
theorem names_any (last wo k : Int) (w : World) (hn : Nam w) (hl : last ≤ 12) :
    Calls Tryz.prog 111 #[lay last wo, .int .i8 k] w fun r w' => r = .returned (.int .u16 (nms last wo k)) ∧ Below w.heap.size w w' := by
  have hB := one_alloc w
  by_cases hk : k < 1 ∨ last < k
  · have hr : nms last wo k = 0 := by unfold nms; rw [if_pos hk]
    rw [hr]
    clear hr hn
    go_enter Tryz.func111, Tryz.ntmps111
    go_wp2
    all_goals first | (go_ret; exact ⟨rfl, hB _⟩) | (exfalso; omega)
  · have hr : nms last wo k = bits .andNot .u16 (tabN k) wo := by unfold nms; rw [if_neg hk]
    rw [hr]
    have hc : w.cell? ⟨0, k.toNat, none⟩ = some (.int .u16 (tabN k)) := by
      have := Lib.TabIs.cell hn nam_global k.toNat (by simp; omega)
      rw [this]
      unfold tabN
      rfl
    have hlt := hn.lt
    have h1 : 1 ≤ k := by omega
    have h2 : k ≤ last := by omega
    clear hr hk hn
    generalize tabN k = t at *
    have hc1 : (w.alloc (.cells #[.int .i8 last, .int .u16 wo] 114)).cell? ⟨0, k.toNat, none⟩ = some (.int .u16 t) := by
      rw [World.cell?_alloc_lt _ _ _ hlt]; exact hc
    have hk0 : 0 ≤ k := by omega
    have hk13 : k < 13 := by omega
    clear hc
    go_enter Tryz.func111, Tryz.ntmps111
    go_wp2
    go_quiet (fail)
    go_wp2
    go_ret
    exact ⟨rfl, below_drewN (hB _) _⟩

/-- What of a request is not zero, as bits. -/
def fillz (p d a v e s z t o q : Bool) : Int :=
  bits .or .u16 (bits .or .u16 (bits .or .u16 (bits .or .u16 (bits .or .u16 (bits .or .u16 (bits .or .u16 (bits .or .u16 (bits .or .u16 (bz 1 p) (bz 2 d)) (bz 4 a)) (bz 8 v)) (bz 16 e)) (bz 32 s)) (bz 64 z)) (bz 128 t)) (bz 256 o)) (bz 512 q)

set_option maxHeartbeats 1000000 in
theorem filled_any (k : Int) (s : ByteArray) (da aa wa oa : Option Addr) (dl dc al ac wl wc ol oc : Nat) (ver : Int) (eph seq : Bool) (ses tmo : Int) (w : World) :
    Calls Tryz.prog 137 #[.agg #[.int .i8 k, .string s, .slice da dl dc, .slice aa al ac, .int .i32 ver, .bool eph, .bool seq, .int .i64 ses, .int .i32 tmo, .slice wa wl wc, .slice oa ol oc]] w
      fun r w' => r = .returned (.int .u16 (fillz (!s.toList.isEmpty) (decide (0 < dl)) (decide (0 < al)) (ver != 0) eph seq (ses != 0) (tmo != 0) (decide (0 < wl)) (decide (0 < ol)))) ∧ Below w.heap.size w w' := by
  have hB := one_alloc w
  go_enter Tryz.func137, Tryz.ntmps137
  go_wp2
  go_quiet ((go_at_call 156; exact Calls.quiet_of_same (bit_any _ _ _)))
  go_wp2
  go_ret
  refine ⟨?_, below_drewN (hB _) _⟩
  rfl

/-- An id that may be. -/
def idOk (x : IdD) : Bool := decide (x.scheme.size ≤ 24 ∧ x.name.size ≤ 24)

set_option maxHeartbeats 400000 in
theorem isId_any (x : IdD) (w : World) :
    Calls Tryz.prog 160 #[.agg #[.string x.scheme, .string x.name]] w fun r w' => r = .returned (.bool (idOk x)) ∧ Below w.heap.size w w' := by
  have hB := one_alloc w
  go_enter Tryz.func160, Tryz.ntmps160
  go_wp2
  all_goals (go_ret; refine ⟨?_, hB _⟩; unfold idOk; simp; first | omega | (rw [decide_eq_true (show x.scheme.size ≤ 24 by omega)]; simp; omega))

set_option maxHeartbeats 400000 in
theorem isEntry_any (x : EnD) (w : World) :
    Calls Tryz.prog 158 #[.agg #[.int .i8 x.perms, .string x.id.scheme, .string x.id.name]] w fun r w' => r = .returned (.bool (idOk x.id)) ∧ Below w.heap.size w w' := by
  have hB := one_alloc w
  go_enter Tryz.func158, Tryz.ntmps158
  go_wp2_with fail
  refine (isId_any x.id _).mono ?_
  rintro r w1 ⟨rfl, b1⟩
  have HB : Hid (Below w.heap.size w w1) := (hB _).trans (b1.mono (by simp))
  clear b1
  go_wp2
  go_ret
  exact ⟨rfl, HB.out⟩
end Go.Proofs.YtoeialngbbfoeaaGreatDoor

/- What isList of package txn answers, at entries, ids and requests. -/
namespace Go.Proofs.YtoeialngbbfoeaaGreatDoor
open Go.RowKit
set_option maxRecDepth 8000

theorem all_take_next {α : Type} (p : α → Bool) (l : List α) (k : Nat) (h : k < l.length) : (l.take (k + 1)).all p = ((l.take k).all p && p l[k]) := by
  rw [List.take_succ_eq_append_getElem h, List.all_append]; simp

theorem all_bad {α : Type} (p : α → Bool) (l : List α) (k : Nat) (h : k < l.length) (hp : p l[k] = false) : l.all p = false := by
  by_cases ha : l.all p = true
  · rw [List.all_eq_true] at ha
    rw [ha _ (List.getElem_mem h)] at hp
    cases hp
  · simpa using ha

set_option maxHeartbeats 400000 in
theorem isListE_any (v : Value) (l : List EnD) (most : Int) (w : World) (h : SeesR w v 3 (l.map EnD.cells)) :
    Calls Tryz.prog 157 #[v, .int .i64 most, .func (.func 158) #[] #[]] w fun r w' => r = .returned (.bool (decide ((l.length : Int) ≤ most) && l.all (fun x => idOk x.id))) ∧ Below w.heap.size w w' := by
  obtain ⟨ao, cap, rfl, hlc, hcm, _, h3⟩ := h
  unfold maxLen at hcm
  rw [List.length_map] at hlc ⊢
  by_cases hm : (l.length : Int) ≤ most
  · rw [decide_eq_true hm]
    go_enter Tryz.func157, Tryz.ntmps157
    go_wp2
    go_loopw [15] (fun i wr => ∃ k : Nat, k ≤ l.length ∧ i = .int .i64 k ∧ (l.take k).all (fun x => idOk x.id) = true ∧ Below w.heap.size w wr) (fun i _ => l.length - (intOf i).toNat)
    case atStart => exact ⟨0, Nat.zero_le _, rfl, by simp, Below.refl _ _⟩
    case round =>
      obtain ⟨k, hk, rfl, hal, hbel⟩ := hrel
      by_cases hlt : k < l.length
      · rcases h3 with h3 | ⟨b, off, rfl, h3⟩
        · have : l.length = 0 := by simpa using congrArg List.length h3
          omega
        · have c0 := cell_later (h3 k (by simpa using hlt) 0 (by omega)) hbel (Nat.le_refl _)
          have c1 := cell_later (h3 k (by simpa using hlt) 1 (by omega)) hbel (Nat.le_refl _)
          have c2 := cell_later (h3 k (by simpa using hlt) 2 (by omega)) hbel (Nat.le_refl _)
          simp [EnD.cells] at c0 c1 c2
          have HN : Hid _ := all_take_next (fun x : EnD => idOk x.id) l k hlt
          have HA : Hid _ := hal
          have HF : Hid (idOk l[k].id = false → l.all (fun x => idOk x.id) = false) := all_bad (fun x : EnD => idOk x.id) l k hlt
          have HB : Hid (Below w.heap.size w wr) := hbel
          clear h3 hal hbel
          generalize l[k] = x at *
          go_wp2_with fail
          refine (isEntry_any x _).mono ?_
          rintro r w1 ⟨rfl, b1⟩
          have HB1 : Hid (Below w.heap.size w w1) := (HB.out.alloc HB.out.size _).trans (b1.mono (by have := HB.out.size; simp; omega))
          clear b1
          by_cases hx : idOk x.id = true
          · rw [hx]
            go_wp2
            go_roundw
            case rel => exact ⟨k + 1, by omega, by go_num, by rw [HN.out, HA.out]; simp [hx], HB1.out⟩
            case measure => simp [intOf]; omega
          · have hx' : idOk x.id = false := by simpa using hx
            rw [hx']
            go_wp2
            go_ret
            exact ⟨by rw [HF.out hx']; rfl, HB1.out⟩
      · obtain rfl : k = l.length := by omega
        rw [List.take_length] at hal
        have HB : Hid (Below w.heap.size w wr) := hbel
        have HA : Hid _ := hal
        clear hal hbel
        go_wp2
        go_ret
        exact ⟨by rw [HA.out]; rfl, HB.out⟩
  · rw [decide_eq_false hm]
    go_enter Tryz.func157, Tryz.ntmps157
    go_wp2
    go_ret
    exact ⟨rfl, Below.refl _ _⟩
set_option maxHeartbeats 400000 in
theorem isListI_any (v : Value) (l : List IdD) (most : Int) (w : World) (h : SeesR w v 2 (l.map IdD.cells)) :
    Calls Tryz.prog 159 #[v, .int .i64 most, .func (.func 160) #[] #[]] w fun r w' => r = .returned (.bool (decide ((l.length : Int) ≤ most) && l.all (fun x => idOk x))) ∧ Below w.heap.size w w' := by
  obtain ⟨ao, cap, rfl, hlc, hcm, _, h3⟩ := h
  unfold maxLen at hcm
  rw [List.length_map] at hlc ⊢
  by_cases hm : (l.length : Int) ≤ most
  · rw [decide_eq_true hm]
    go_enter Tryz.func159, Tryz.ntmps159
    go_wp2
    go_loopw [15] (fun i wr => ∃ k : Nat, k ≤ l.length ∧ i = .int .i64 k ∧ (l.take k).all (fun x => idOk x) = true ∧ Below w.heap.size w wr) (fun i _ => l.length - (intOf i).toNat)
    case atStart => exact ⟨0, Nat.zero_le _, rfl, by simp, Below.refl _ _⟩
    case round =>
      obtain ⟨k, hk, rfl, hal, hbel⟩ := hrel
      by_cases hlt : k < l.length
      · rcases h3 with h3 | ⟨b, off, rfl, h3⟩
        · have : l.length = 0 := by simpa using congrArg List.length h3
          omega
        · have c0 := cell_later (h3 k (by simpa using hlt) 0 (by omega)) hbel (Nat.le_refl _)
          have c1 := cell_later (h3 k (by simpa using hlt) 1 (by omega)) hbel (Nat.le_refl _)
          simp [IdD.cells] at c0 c1
          have HN : Hid _ := all_take_next (fun x : IdD => idOk x) l k hlt
          have HA : Hid _ := hal
          have HF : Hid (idOk l[k] = false → l.all (fun x => idOk x) = false) := all_bad (fun x : IdD => idOk x) l k hlt
          have HB : Hid (Below w.heap.size w wr) := hbel
          clear h3 hal hbel
          generalize l[k] = x at *
          go_wp2_with fail
          refine (isId_any x _).mono ?_
          rintro r w1 ⟨rfl, b1⟩
          have HB1 : Hid (Below w.heap.size w w1) := (HB.out.alloc HB.out.size _).trans (b1.mono (by have := HB.out.size; simp; omega))
          clear b1
          by_cases hx : idOk x = true
          · rw [hx]
            go_wp2
            go_roundw
            case rel => exact ⟨k + 1, by omega, by go_num, by rw [HN.out, HA.out]; simp [hx], HB1.out⟩
            case measure => simp [intOf]; omega
          · have hx' : idOk x = false := by simpa using hx
            rw [hx']
            go_wp2
            go_ret
            exact ⟨by rw [HF.out hx']; rfl, HB1.out⟩
      · obtain rfl : k = l.length := by omega
        rw [List.take_length] at hal
        have HB : Hid (Below w.heap.size w wr) := hbel
        have HA : Hid _ := hal
        clear hal hbel
        go_wp2
        go_ret
        exact ⟨by rw [HA.out]; rfl, HB.out⟩
  · rw [decide_eq_false hm]
    go_enter Tryz.func159, Tryz.ntmps159
    go_wp2
    go_ret
    exact ⟨rfl, Below.refl _ _⟩

theorem all_fn_next {n : Nat} (p : Fin n → Bool) (k : Nat) (h : k < n) : ((List.ofFn p).take (k + 1)).all id = (((List.ofFn p).take k).all id && p ⟨k, h⟩) := by
  rw [all_take_next id (List.ofFn p) k (by simpa using h)]; simp
theorem all_fn_bad {n : Nat} (p : Fin n → Bool) (k : Nat) (h : k < n) (hp : p ⟨k, h⟩ = false) : (List.ofFn p).all id = false :=
  all_bad id (List.ofFn p) k (by simpa using h) (by simpa using hp)

theorem seesR_form {w : World} {v : Value} {z : Nat} {cs : List (List Value)} (h : SeesR w v z cs) : ∃ a n c, v = .slice a n c := by
  obtain ⟨ao, cap, rfl, _⟩ := h; exact ⟨_, _, _, rfl⟩
theorem sees_form {w : World} {v : Value} {xs : List Int} (h : Sees w v xs) : ∃ a n c, v = .slice a n c := by
  obtain ⟨ao, cap, rfl, _⟩ := h; exact ⟨_, _, _, rfl⟩

theorem rq_forms {w : World} {cs : List Value} {r : Rq} (h : SeesRq w cs r) : ∃ (k : Int) (s : ByteArray) (da : Option Addr) (dl dc : Nat) (aa : Option Addr) (al ac : Nat) (v : Int) (e q : Bool) (z t : Int) (wa : Option Addr) (wl wc : Nat) (oa : Option Addr) (ol oc : Nat),
    cs = [.int .i8 k, .string s, .slice da dl dc, .slice aa al ac, .int .i32 v, .bool e, .bool q, .int .i64 z, .int .i32 t, .slice wa wl wc, .slice oa ol oc] := by
  cases h with
  | mk f n ops dv av wv ov oc hd ha hw ho hs =>
    obtain ⟨a1, n1, c1, rfl⟩ := sees_form hd
    obtain ⟨a2, n2, c2, rfl⟩ := seesR_form ha
    obtain ⟨a3, n3, c3, rfl⟩ := seesR_form hw
    obtain ⟨a4, n4, c4, rfl⟩ := seesR_form ho
    exact ⟨_, _, _, _, _, _, _, _, _, _, _, _, _, _, _, _, _, _, _, rfl⟩

set_option maxHeartbeats 1000000 in
theorem isListR_any (v : Value) (n : Nat) (oc : Fin n → List Value) (ops : Fin n → Rq) (p : Fin n → Bool) (most : Int) (w : World) (h : SeesR w v 11 (List.ofFn oc)) (hs : ∀ i, SeesRq w (oc i) (ops i)) (hl : n ≤ 140737488355328)
    (hc : ∀ i (W : World), Below w.heap.size w W → Calls Tryz.prog 108 #[lay 5 320, .agg (oc i).toArray] W fun r W' => r = .returned (.bool (p i)) ∧ Below W.heap.size W W') :
    Calls Tryz.prog 161 #[v, .int .i64 most, .func (.func 108) #[lay 5 320] #[]] w fun r w' => r = .returned (.bool (decide ((n : Int) ≤ most) && (List.ofFn p).all id)) ∧ Below w.heap.size w w' := by
  obtain ⟨ao, cap, rfl, hlc, hcm, _, h3⟩ := h
  unfold maxLen at hcm
  rw [List.length_ofFn] at hlc ⊢
  have HC : Hid _ := hc
  have HS : Hid _ := hs
  clear hc hs
  by_cases hm : (n : Int) ≤ most
  · rw [decide_eq_true hm]
    go_enter Tryz.func161, Tryz.ntmps161
    go_wp2
    go_loopw [15] (fun i wr => ∃ k : Nat, k ≤ n ∧ i = .int .i64 k ∧ ((List.ofFn p).take k).all id = true ∧ Below w.heap.size w wr) (fun i _ => n - (intOf i).toNat)
    case atStart => exact ⟨0, Nat.zero_le _, rfl, by simp, Below.refl _ _⟩
    case round =>
      obtain ⟨k, hk, rfl, hal, hbel⟩ := hrel
      by_cases hlt : k < n
      · rcases h3 with h3 | ⟨b, off, rfl, h3⟩
        · have : n = 0 := by simpa using congrArg List.length h3
          omega
        · obtain ⟨q0, q1, d0, d1, d2, a0, a1, a2, q4, q5, q6, q7, q8, e0, e1, e2, o0, o1, o2, hcs⟩ := rq_forms (HS.out ⟨k, hlt⟩)
          have hat : ∀ j, j < 11 → wr.cell? ⟨b, off + k * 11 + j, none⟩ = some ((oc ⟨k, hlt⟩).getD j (.bool false)) := fun j hj => by
            have := cell_later (h3 k (by simpa using hlt) j hj) hbel (Nat.le_refl _)
            simpa using this
          rw [hcs] at hat
          have g0 : wr.cell? ⟨b, off + k * 11, none⟩ = some (.int .i8 q0) := hat 0 (by omega)
          have g1 : wr.cell? ⟨b, off + k * 11 + 1, none⟩ = some (.string q1) := hat 1 (by omega)
          have g2 : wr.cell? ⟨b, off + k * 11 + 2, none⟩ = some (.slice d0 d1 d2) := hat 2 (by omega)
          have g3 : wr.cell? ⟨b, off + k * 11 + 3, none⟩ = some (.slice a0 a1 a2) := hat 3 (by omega)
          have g4 : wr.cell? ⟨b, off + k * 11 + 4, none⟩ = some (.int .i32 q4) := hat 4 (by omega)
          have g5 : wr.cell? ⟨b, off + k * 11 + 5, none⟩ = some (.bool q5) := hat 5 (by omega)
          have g6 : wr.cell? ⟨b, off + k * 11 + 6, none⟩ = some (.bool q6) := hat 6 (by omega)
          have g7 : wr.cell? ⟨b, off + k * 11 + 7, none⟩ = some (.int .i64 q7) := hat 7 (by omega)
          have g8 : wr.cell? ⟨b, off + k * 11 + 8, none⟩ = some (.int .i32 q8) := hat 8 (by omega)
          have g9 : wr.cell? ⟨b, off + k * 11 + 9, none⟩ = some (.slice e0 e1 e2) := hat 9 (by omega)
          have g10 : wr.cell? ⟨b, off + k * 11 + 10, none⟩ = some (.slice o0 o1 o2) := hat 10 (by omega)
          have HX := HC.out ⟨k, hlt⟩
          rw [hcs] at HX
          have HX : Hid _ := HX
          have HN : Hid _ := all_fn_next p k hlt
          have HF : Hid _ := all_fn_bad p k hlt
          have HA : Hid _ := hal
          have HB : Hid (Below w.heap.size w wr) := hbel
          clear h3 hal hbel hat hcs
          generalize p ⟨k, hlt⟩ = pb at *
          go_wp2_with fail
          refine (HX.out _ (HB.out.alloc HB.out.size _)).mono ?_
          rintro r w1 ⟨rfl, b1⟩
          have HB1 : Hid (Below w.heap.size w w1) := (HB.out.alloc HB.out.size _).trans (b1.mono (by have := HB.out.size; simp; omega))
          clear b1
          by_cases hx : pb = true
          · rw [hx]
            go_wp2
            go_roundw
            case rel => exact ⟨k + 1, by omega, by go_num, by rw [HN.out, HA.out]; simp [hx], HB1.out⟩
            case measure => simp [intOf]; omega
          · have hx' : pb = false := by simpa using hx
            rw [hx']
            go_wp2
            go_ret
            exact ⟨by rw [HF.out hx']; rfl, HB1.out⟩
      · obtain rfl : k = n := by omega
        have e : ((List.ofFn p).take k) = List.ofFn p := List.take_of_length_le (by simp)
        rw [e] at hal
        have HB : Hid (Below w.heap.size w wr) := hbel
        have HA : Hid _ := hal
        clear hal hbel e
        go_wp2
        go_ret
        exact ⟨by rw [HA.out]; rfl, HB.out⟩
  · rw [decide_eq_false hm]
    go_enter Tryz.func161, Tryz.ntmps161
    go_wp2
    go_ret
    exact ⟨rfl, Below.refl _ _⟩
end Go.Proofs.YtoeialngbbfoeaaGreatDoor
