/- What isList of package txn answers, at entries, ids and requests. -/
import Derived.Test.YtochbjafdcbckaaGreatDoorChkJ
namespace Go.Proofs.YtochbjafdcbckaaGreatDoor
open Go.RowKit
set_option maxRecDepth 8000

theorem all_take_next {α : Type} (p : α → Bool) (l : List α) (k : Nat) (h : k < l.length) : (l.take (k + 1)).all p = ((l.take k).all p && p l[k]) := by
  rw [List.take_succ_eq_append_getElem h, List.all_append]; simp

theorem all_bad {α : Type} (p : α → Bool) (l : List α) (k : Nat) (h : k < l.length) (hp : p l[k] = false) : l.all p = false := by
  by_cases ha : l.all p = true
  · rw [List.all_eq_true] at ha
    rw [ha _ (List.getElem_mem h)] at hp
    cases hp
  · simpa using ha

set_option maxHeartbeats 400000 in
theorem isListE_any (v : Value) (l : List EnD) (most : Int) (w : World) (h : SeesR w v 3 (l.map EnD.cells)) :
    Calls Tryz.prog 152 #[v, .int .i64 most, .func (.func 153) #[] #[]] w fun r w' => r = .returned (.bool (decide ((l.length : Int) ≤ most) && l.all (fun x => idOk x.id))) ∧ Below w.heap.size w w' := by
  obtain ⟨ao, cap, rfl, hlc, hcm, _, h3⟩ := h
  unfold maxLen at hcm
  rw [List.length_map] at hlc ⊢
  by_cases hm : (l.length : Int) ≤ most
  · rw [decide_eq_true hm]
    go_enter Tryz.func152, Tryz.ntmps152
    go_wp2
    go_loopw [15] (fun i wr => ∃ k : Nat, k ≤ l.length ∧ i = .int .i64 k ∧ (l.take k).all (fun x => idOk x.id) = true ∧ Below w.heap.size w wr) (fun i _ => l.length - (intOf i).toNat)
    case atStart => exact ⟨0, Nat.zero_le _, rfl, by simp, Below.refl _ _⟩
    case round =>
      obtain ⟨k, hk, rfl, hal, hbel⟩ := hrel
      by_cases hlt : k < l.length
      · rcases h3 with h3 | ⟨b, off, rfl, h3⟩
        · have : l.length = 0 := by simpa using congrArg List.length h3
          omega
        · have c0 := cell_later (h3 k (by simpa using hlt) 0 (by omega)) hbel (Nat.le_refl _)
          have c1 := cell_later (h3 k (by simpa using hlt) 1 (by omega)) hbel (Nat.le_refl _)
          have c2 := cell_later (h3 k (by simpa using hlt) 2 (by omega)) hbel (Nat.le_refl _)
          simp [EnD.cells] at c0 c1 c2
          have HN : Hid _ := all_take_next (fun x : EnD => idOk x.id) l k hlt
          have HA : Hid _ := hal
          have HF : Hid (idOk l[k].id = false → l.all (fun x => idOk x.id) = false) := all_bad (fun x : EnD => idOk x.id) l k hlt
          have HB : Hid (Below w.heap.size w wr) := hbel
          clear h3 hal hbel
          generalize l[k] = x at *
          go_wp2_with fail
          refine (isEntry_any x _).mono ?_
          rintro r w1 ⟨rfl, b1⟩
          have HB1 : Hid (Below w.heap.size w w1) := (HB.out.alloc HB.out.size _).trans (b1.mono (by have := HB.out.size; simp; omega))
          clear b1
          by_cases hx : idOk x.id = true
          · rw [hx]
            go_wp2
            go_roundw
            case rel => exact ⟨k + 1, by omega, by go_num, by rw [HN.out, HA.out]; simp [hx], HB1.out⟩
            case measure => simp [intOf]; omega
          · have hx' : idOk x.id = false := by simpa using hx
            rw [hx']
            go_wp2
            go_ret
            exact ⟨by rw [HF.out hx']; rfl, HB1.out⟩
      · obtain rfl : k = l.length := by omega
        rw [List.take_length] at hal
        have HB : Hid (Below w.heap.size w wr) := hbel
        have HA : Hid _ := hal
        clear hal hbel
        go_wp2
        go_ret
        exact ⟨by rw [HA.out]; rfl, HB.out⟩
  · rw [decide_eq_false hm]
    go_enter Tryz.func152, Tryz.ntmps152
    go_wp2
    go_ret
    exact ⟨rfl, Below.refl _ _⟩
set_option maxHeartbeats 400000 in
theorem isListI_any (v : Value) (l : List IdD) (most : Int) (w : World) (h : SeesR w v 2 (l.map IdD.cells)) :
    Calls Tryz.prog 154 #[v, .int .i64 most, .func (.func 155) #[] #[]] w fun r w' => r = .returned (.bool (decide ((l.length : Int) ≤ most) && l.all (fun x => idOk x))) ∧ Below w.heap.size w w' := by
  obtain ⟨ao, cap, rfl, hlc, hcm, _, h3⟩ := h
  unfold maxLen at hcm
  rw [List.length_map] at hlc ⊢
  by_cases hm : (l.length : Int) ≤ most
  · rw [decide_eq_true hm]
    go_enter Tryz.func154, Tryz.ntmps154
    go_wp2
    go_loopw [15] (fun i wr => ∃ k : Nat, k ≤ l.length ∧ i = .int .i64 k ∧ (l.take k).all (fun x => idOk x) = true ∧ Below w.heap.size w wr) (fun i _ => l.length - (intOf i).toNat)
    case atStart => exact ⟨0, Nat.zero_le _, rfl, by simp, Below.refl _ _⟩
    case round =>
      obtain ⟨k, hk, rfl, hal, hbel⟩ := hrel
      by_cases hlt : k < l.length
      · rcases h3 with h3 | ⟨b, off, rfl, h3⟩
        · have : l.length = 0 := by simpa using congrArg List.length h3
          omega
        · have c0 := cell_later (h3 k (by simpa using hlt) 0 (by omega)) hbel (Nat.le_refl _)
          have c1 := cell_later (h3 k (by simpa using hlt) 1 (by omega)) hbel (Nat.le_refl _)
          simp [IdD.cells] at c0 c1
          have HN : Hid _ := all_take_next (fun x : IdD => idOk x) l k hlt
          have HA : Hid _ := hal
          have HF : Hid (idOk l[k] = false → l.all (fun x => idOk x) = false) := all_bad (fun x : IdD => idOk x) l k hlt
          have HB : Hid (Below w.heap.size w wr) := hbel
          clear h3 hal hbel
          generalize l[k] = x at *
          go_wp2_with fail
          refine (isId_any x _).mono ?_
          rintro r w1 ⟨rfl, b1⟩
          have HB1 : Hid (Below w.heap.size w w1) := (HB.out.alloc HB.out.size _).trans (b1.mono (by have := HB.out.size; simp; omega))
          clear b1
          by_cases hx : idOk x = true
          · rw [hx]
            go_wp2
            go_roundw
            case rel => exact ⟨k + 1, by omega, by go_num, by rw [HN.out, HA.out]; simp [hx], HB1.out⟩
            case measure => simp [intOf]; omega
          · have hx' : idOk x = false := by simpa using hx
            rw [hx']
            go_wp2
            go_ret
            exact ⟨by rw [HF.out hx']; rfl, HB1.out⟩
      · obtain rfl : k = l.length := by omega
        rw [List.take_length] at hal
        have HB : Hid (Below w.heap.size w wr) := hbel
        have HA : Hid _ := hal
        clear hal hbel
        go_wp2
        go_ret
        exact ⟨by rw [HA.out]; rfl, HB.out⟩
  · rw [decide_eq_false hm]
    go_enter Tryz.func154, Tryz.ntmps154
    go_wp2
    go_ret
    exact ⟨rfl, Below.refl _ _⟩

theorem all_fn_next {n : Nat} (p : Fin n → Bool) (k : Nat) (h : k < n) : ((List.ofFn p).take (k + 1)).all id = (((List.ofFn p).take k).all id && p ⟨k, h⟩) := by
  rw [all_take_next id (List.ofFn p) k (by simpa using h)]; simp
theorem all_fn_bad {n : Nat} (p : Fin n → Bool) (k : Nat) (h : k < n) (hp : p ⟨k, h⟩ = false) : (List.ofFn p).all id = false :=
  all_bad id (List.ofFn p) k (by simpa using h) (by simpa using hp)

theorem seesR_form {w : World} {v : Value} {z : Nat} {cs : List (List Value)} (h : SeesR w v z cs) : ∃ a n c, v = .slice a n c := by
  obtain ⟨ao, cap, rfl, _⟩ := h; exact ⟨_, _, _, rfl⟩
theorem sees_form {w : World} {v : Value} {xs : List Int} (h : Sees w v xs) : ∃ a n c, v = .slice a n c := by
  obtain ⟨ao, cap, rfl, _⟩ := h; exact ⟨_, _, _, rfl⟩

theorem rq_forms {w : World} {cs : List Value} {r : Rq} (h : SeesRq w cs r) : ∃ (k : Int) (s : ByteArray) (da : Option Addr) (dl dc : Nat) (aa : Option Addr) (al ac : Nat) (v : Int) (e q : Bool) (z t : Int) (wa : Option Addr) (wl wc : Nat) (oa : Option Addr) (ol oc : Nat),
    cs = [.int .i8 k, .string s, .slice da dl dc, .slice aa al ac, .int .i32 v, .bool e, .bool q, .int .i64 z, .int .i32 t, .slice wa wl wc, .slice oa ol oc] := by
  cases h with
  | mk f n ops dv av wv ov oc hd ha hw ho hs =>
    obtain ⟨a1, n1, c1, rfl⟩ := sees_form hd
    obtain ⟨a2, n2, c2, rfl⟩ := seesR_form ha
    obtain ⟨a3, n3, c3, rfl⟩ := seesR_form hw
    obtain ⟨a4, n4, c4, rfl⟩ := seesR_form ho
    exact ⟨_, _, _, _, _, _, _, _, _, _, _, _, _, _, _, _, _, _, _, rfl⟩

set_option maxHeartbeats 1000000 in
theorem isListR_any (v : Value) (n : Nat) (oc : Fin n → List Value) (ops : Fin n → Rq) (p : Fin n → Bool) (most : Int) (w : World) (h : SeesR w v 11 (List.ofFn oc)) (hs : ∀ i, SeesRq w (oc i) (ops i)) (hl : n ≤ 140737488355328)
    (hc : ∀ i (W : World), Below w.heap.size w W → Calls Tryz.prog 126 #[lay 5 320, .agg (oc i).toArray] W fun r W' => r = .returned (.bool (p i)) ∧ Below W.heap.size W W') :
    Calls Tryz.prog 156 #[v, .int .i64 most, .func (.func 126) #[lay 5 320] #[]] w fun r w' => r = .returned (.bool (decide ((n : Int) ≤ most) && (List.ofFn p).all id)) ∧ Below w.heap.size w w' := by
  obtain ⟨ao, cap, rfl, hlc, hcm, _, h3⟩ := h
  unfold maxLen at hcm
  rw [List.length_ofFn] at hlc ⊢
  have HC : Hid _ := hc
  have HS : Hid _ := hs
  clear hc hs
  by_cases hm : (n : Int) ≤ most
  · rw [decide_eq_true hm]
    go_enter Tryz.func156, Tryz.ntmps156
    go_wp2
    go_loopw [15] (fun i wr => ∃ k : Nat, k ≤ n ∧ i = .int .i64 k ∧ ((List.ofFn p).take k).all id = true ∧ Below w.heap.size w wr) (fun i _ => n - (intOf i).toNat)
    case atStart => exact ⟨0, Nat.zero_le _, rfl, by simp, Below.refl _ _⟩
    case round =>
      obtain ⟨k, hk, rfl, hal, hbel⟩ := hrel
      by_cases hlt : k < n
      · rcases h3 with h3 | ⟨b, off, rfl, h3⟩
        · have : n = 0 := by simpa using congrArg List.length h3
          omega
        · obtain ⟨q0, q1, d0, d1, d2, a0, a1, a2, q4, q5, q6, q7, q8, e0, e1, e2, o0, o1, o2, hcs⟩ := rq_forms (HS.out ⟨k, hlt⟩)
          have hat : ∀ j, j < 11 → wr.cell? ⟨b, off + k * 11 + j, none⟩ = some ((oc ⟨k, hlt⟩).getD j (.bool false)) := fun j hj => by
            have := cell_later (h3 k (by simpa using hlt) j hj) hbel (Nat.le_refl _)
            simpa using this
          rw [hcs] at hat
          have g0 : wr.cell? ⟨b, off + k * 11, none⟩ = some (.int .i8 q0) := hat 0 (by omega)
          have g1 : wr.cell? ⟨b, off + k * 11 + 1, none⟩ = some (.string q1) := hat 1 (by omega)
          have g2 : wr.cell? ⟨b, off + k * 11 + 2, none⟩ = some (.slice d0 d1 d2) := hat 2 (by omega)
          have g3 : wr.cell? ⟨b, off + k * 11 + 3, none⟩ = some (.slice a0 a1 a2) := hat 3 (by omega)
          have g4 : wr.cell? ⟨b, off + k * 11 + 4, none⟩ = some (.int .i32 q4) := hat 4 (by omega)
          have g5 : wr.cell? ⟨b, off + k * 11 + 5, none⟩ = some (.bool q5) := hat 5 (by omega)
          have g6 : wr.cell? ⟨b, off + k * 11 + 6, none⟩ = some (.bool q6) := hat 6 (by omega)
          have g7 : wr.cell? ⟨b, off + k * 11 + 7, none⟩ = some (.int .i64 q7) := hat 7 (by omega)
          have g8 : wr.cell? ⟨b, off + k * 11 + 8, none⟩ = some (.int .i32 q8) := hat 8 (by omega)
          have g9 : wr.cell? ⟨b, off + k * 11 + 9, none⟩ = some (.slice e0 e1 e2) := hat 9 (by omega)
          have g10 : wr.cell? ⟨b, off + k * 11 + 10, none⟩ = some (.slice o0 o1 o2) := hat 10 (by omega)
          have HX := HC.out ⟨k, hlt⟩
          rw [hcs] at HX
          have HX : Hid _ := HX
          have HN : Hid _ := all_fn_next p k hlt
          have HF : Hid _ := all_fn_bad p k hlt
          have HA : Hid _ := hal
          have HB : Hid (Below w.heap.size w wr) := hbel
          clear h3 hal hbel hat hcs
          generalize p ⟨k, hlt⟩ = pb at *
          go_wp2_with fail
          refine (HX.out _ (HB.out.alloc HB.out.size _)).mono ?_
          rintro r w1 ⟨rfl, b1⟩
          have HB1 : Hid (Below w.heap.size w w1) := (HB.out.alloc HB.out.size _).trans (b1.mono (by have := HB.out.size; simp; omega))
          clear b1
          by_cases hx : pb = true
          · rw [hx]
            go_wp2
            go_roundw
            case rel => exact ⟨k + 1, by omega, by go_num, by rw [HN.out, HA.out]; simp [hx], HB1.out⟩
            case measure => simp [intOf]; omega
          · have hx' : pb = false := by simpa using hx
            rw [hx']
            go_wp2
            go_ret
            exact ⟨by rw [HF.out hx']; rfl, HB1.out⟩
      · obtain rfl : k = n := by omega
        have e : ((List.ofFn p).take k) = List.ofFn p := List.take_of_length_le (by simp)
        rw [e] at hal
        have HB : Hid (Below w.heap.size w wr) := hbel
        have HA : Hid _ := hal
        clear hal hbel e
        go_wp2
        go_ret
        exact ⟨by rw [HA.out]; rfl, HB.out⟩
  · rw [decide_eq_false hm]
    go_enter Tryz.func156, Tryz.ntmps156
    go_wp2
    go_ret
    exact ⟨rfl, Below.refl _ _⟩
end Go.Proofs.YtochbjafdcbckaaGreatDoor

/- What isBounded of package txn answers where all ahead of the Ops is within its bounds. -/
namespace Go.Proofs.YtochbjafdcbckaaGreatDoor
open Go.RowKit
set_option maxRecDepth 8000

def aclOk (l : List EnD) : Bool := decide ((l.length : Int) ≤ 4) && l.all (fun x => idOk x.id)
def whoOk (l : List IdD) : Bool := decide ((l.length : Int) ≤ 4) && l.all idOk

theorem keep7 {W W' : World} {N : Nat} {v1 v2 v3 v7 v8 v9 v10 : Value} (hb : Below W.heap.size W W') (h : W.cell? ⟨N, 1, none⟩ = some v1 ∧ W.cell? ⟨N, 2, none⟩ = some v2 ∧ W.cell? ⟨N, 3, none⟩ = some v3 ∧ W.cell? ⟨N, 7, none⟩ = some v7 ∧ W.cell? ⟨N, 8, none⟩ = some v8 ∧ W.cell? ⟨N, 9, none⟩ = some v9 ∧ W.cell? ⟨N, 10, none⟩ = some v10) :
    W'.cell? ⟨N, 1, none⟩ = some v1 ∧ W'.cell? ⟨N, 2, none⟩ = some v2 ∧ W'.cell? ⟨N, 3, none⟩ = some v3 ∧ W'.cell? ⟨N, 7, none⟩ = some v7 ∧ W'.cell? ⟨N, 8, none⟩ = some v8 ∧ W'.cell? ⟨N, 9, none⟩ = some v9 ∧ W'.cell? ⟨N, 10, none⟩ = some v10 :=
  ⟨cell_later h.1 hb (Nat.le_refl _), cell_later h.2.1 hb (Nat.le_refl _), cell_later h.2.2.1 hb (Nat.le_refl _), cell_later h.2.2.2.1 hb (Nat.le_refl _), cell_later h.2.2.2.2.1 hb (Nat.le_refl _), cell_later h.2.2.2.2.2.1 hb (Nat.le_refl _), cell_later h.2.2.2.2.2.2 hb (Nat.le_refl _)⟩

set_option maxHeartbeats 2000000 in
theorem isBounded_true (f : RqF) (n : Nat) (ops : Fin n → Rq) (dv av wv ov : Value) (oc : Fin n → List Value) (p : Fin n → Bool) (w : World)
    (hd : Sees w dv f.data) (ha : SeesR w av 3 (f.acl.map EnD.cells)) (hw : SeesR w wv 2 (f.who.map IdD.cells)) (ho : SeesR w ov 11 (List.ofFn oc)) (hs : ∀ i : Fin n, SeesRq w (oc i) (ops i)) (hn : n ≤ 140737488355328)
    (hc : ∀ i (W : World), Below w.heap.size w W → Calls Tryz.prog 126 #[lay 5 320, .agg (oc i).toArray] W fun r W' => r = .returned (.bool (p i)) ∧ Below W.heap.size W W')
    (b1 : f.path.size ≤ 64) (b2 : f.data.length ≤ 96) (b3 : aclOk f.acl = true) (b4 : 0 ≤ f.ses) (b5 : 0 ≤ f.tmo) (b6 : f.tmo ≤ 1000) (b7 : whoOk f.who = true) :
    Calls Tryz.prog 134 #[.agg (rqCells f dv av wv ov).toArray] w fun r w' => r = .returned (.bool (decide ((n : Int) ≤ 8) && (List.ofFn p).all id)) ∧ Below w.heap.size w w' := by
  obtain ⟨kind, path, data, acl, ver, eph, seq, ses, tmo, who⟩ := f
  simp only at hd ha hw b1 b2 b3 b4 b5 b6 b7
  obtain ⟨da, dc, rfl, _⟩ := id hd
  obtain ⟨aa, ac, ea, _⟩ := id ha
  obtain ⟨wa, wc, ew, _⟩ := id hw
  obtain ⟨oa, occ, eo, _⟩ := id ho
  rw [List.length_map] at ea ew
  rw [List.length_ofFn] at eo
  have HA : Hid (∀ W : World, Below w.heap.size w W → Calls Tryz.prog 152 #[av, .int .i64 4, .func (.func 153) #[] #[]] W fun r w' => r = .returned (.bool true) ∧ Below W.heap.size W w') := fun W hW => by
    have := isListE_any av acl 4 W (ha.below hW (Nat.le_refl _))
    rw [show (decide ((acl.length : Int) ≤ 4) && acl.all (fun x => idOk x.id)) = true from b3] at this
    exact this
  have HW : Hid (∀ W : World, Below w.heap.size w W → Calls Tryz.prog 154 #[wv, .int .i64 4, .func (.func 155) #[] #[]] W fun r w' => r = .returned (.bool true) ∧ Below W.heap.size W w') := fun W hW => by
    have := isListI_any wv who 4 W (hw.below hW (Nat.le_refl _))
    rw [show (decide ((who.length : Int) ≤ 4) && who.all (fun x => idOk x)) = true from b7] at this
    exact this
  have HO : Hid (∀ W : World, Below w.heap.size w W → Calls Tryz.prog 156 #[ov, .int .i64 8, .func (.func 126) #[lay 5 320] #[]] W fun r w' => r = .returned (.bool (decide ((n : Int) ≤ 8) && (List.ofFn p).all id)) ∧ Below W.heap.size W w') := fun W hW =>
    isListR_any ov n oc ops p 8 W (ho.below hW (Nat.le_refl _)) (fun i => (hs i).later hW (Nat.le_refl _)) hn (fun i V hV => hc i V (hW.trans (hV.mono hW.size)))
  subst ea ew eo
  clear ha hw ho hs hc hd b3 b7
  simp only [rqCells]
  generalize acl.length = al at *
  generalize who.length = wl at *
  have HB0 : Hid (∀ o : Obj, Below w.heap.size w (w.alloc o).drew) := fun o => below_drewN (one_alloc w o) 1
  go_enter Tryz.func134, Tryz.ntmps134
  go_wp2_with fail
  generalize eW0 : (w.alloc (.cells #[.int .i8 kind, .string path, .slice da data.length dc, .slice aa al ac, .int .i32 ver, .bool eph, .bool seq, .int .i64 ses, .int .i32 tmo, .slice wa wl wc, .slice oa n occ] 35)) = W0
  have k0 : W0.drew.cell? ⟨w.heap.size, 1, none⟩ = some (.string path) ∧ W0.drew.cell? ⟨w.heap.size, 2, none⟩ = some (.slice da data.length dc) ∧ W0.drew.cell? ⟨w.heap.size, 3, none⟩ = some (.slice aa al ac) ∧ W0.drew.cell? ⟨w.heap.size, 7, none⟩ = some (.int .i64 ses) ∧ W0.drew.cell? ⟨w.heap.size, 8, none⟩ = some (.int .i32 tmo) ∧ W0.drew.cell? ⟨w.heap.size, 9, none⟩ = some (.slice wa wl wc) ∧ W0.drew.cell? ⟨w.heap.size, 10, none⟩ = some (.slice oa n occ) := by
    subst eW0
    refine ⟨?_, ?_, ?_, ?_, ?_, ?_, ?_⟩ <;> (show World.cell? (w.alloc _) _ = _; rw [cell_of_row _ _ _ _ _ _ (heap_alloc_new _ _)]; rfl)
  have g0 : Below w.heap.size w W0.drew := by subst eW0; exact HB0.out _
  have HK0 : Hid (W0.drew.cell? ⟨w.heap.size, 1, none⟩ = some (.string path)) := k0.1
  have e1 : decide ((path.size : Int) ≤ 64) = true := by simp; omega
  have e2 : decide ((data.length : Int) ≤ 96) = true := by simp; omega
  have e4 : decide (0 ≤ ses) = true := by simpa using b4
  have e5 : decide (0 ≤ tmo) = true := by simpa using b5
  have e6 : decide (tmo ≤ 1000) = true := by simpa using b6
  clear HB0 eW0
  go_region_held (fun w' => w'.cell? ⟨w.heap.size, 1, none⟩ = some (.string path) ∧ w'.cell? ⟨w.heap.size, 2, none⟩ = some (.slice da data.length dc) ∧ w'.cell? ⟨w.heap.size, 3, none⟩ = some (.slice aa al ac) ∧ w'.cell? ⟨w.heap.size, 7, none⟩ = some (.int .i64 ses) ∧ w'.cell? ⟨w.heap.size, 8, none⟩ = some (.int .i32 tmo) ∧ w'.cell? ⟨w.heap.size, 9, none⟩ = some (.slice wa wl wc) ∧ w'.cell? ⟨w.heap.size, 10, none⟩ = some (.slice oa n occ)) (first | exact k0 | exact k1 | exact k2 | exact k3 | exact k4)
    (first
    | (go_at_call 152; refine (HA.out _ g0).mono ?_; rintro r w1 ⟨rfl, g1⟩; have g1' : Below w.heap.size w w1 := (g0.trans (g1.mono g0.size)); have k1 := keep7 g1 k0; clear k0 g0 g1)
    | (go_at_call 154; refine (HW.out _ g1').mono ?_; rintro r w2 ⟨rfl, g2⟩; have g2' : Below w.heap.size w w2 := (g1'.trans (g2.mono g1'.size)); have k2 := keep7 g2 k1; clear k1 g1' g2)
    | (go_at_call 141; refine (within_any _).mono ?_; rintro r w3 ⟨rfl, g3⟩; have g3' : Below w.heap.size w w3 := (g2'.trans (g3.mono g2'.size)); have k3 := keep7 g3 k2; clear k2 g2' g3)
    | (go_at_call 156; refine (HO.out _ g3').mono ?_; rintro r w4 ⟨rfl, g4⟩; have g4' : Below w.heap.size w w4 := (g3'.trans (g4.mono g3'.size)); have k4 := keep7 g4 k3; clear k3 g3' g4))
  have HG : Hid (Below w.heap.size w w4) := g4'
  clear g4' k4
  go_wp2
  go_ret
  exact ⟨rfl, HG.out⟩

end Go.Proofs.YtochbjafdcbckaaGreatDoor
