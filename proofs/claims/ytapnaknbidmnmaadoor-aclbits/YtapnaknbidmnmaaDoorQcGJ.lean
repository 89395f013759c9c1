/- What acl's Check, CheckIds, hasAuth, isFixed answer, and whether a list of ids has one that an entry's id is met by. -/
import Derived.Test.YtapnaknbidmnmaaDoorQcFJ
namespace Go.Proofs.YtapnaknbidmnmaaDoor
open Go.RowKit Go.Shelf
set_option maxRecDepth 8000

/-- OK, or ErrAcl. -/
abbrev erV (b : Bool) : Value := .int .i64 (if b then 0 else 60)

theorem errorUnless_any (b : Bool) (w : World) : Calls Tryd.prog 17 #[.bool b] w fun e w' => e = .returned (erV b) ∧ w' = w := by
  cases b
  · go_enter Tryd.func17, Tryd.ntmps17
    go_wp2
    all_goals (go_ret; exact ⟨rfl, rfl⟩)
  · go_enter Tryd.func17, Tryd.ntmps17
    go_wp2
    all_goals (go_ret; exact ⟨rfl, rfl⟩)

def enLs (l : List EnT) : Bool := decide (l.length ≤ 4) && lok enOk enEq l l.length
def idLs (l : List IdT) : Bool := decide (l.length ≤ 4) && lok idOk idEq l l.length

theorem aclCheck (v : Value) (l : List EnT) (w : World) (h : SE w v l) (hsz : ∀ x ∈ l, x.2.2.size ≤ 4294967296) : Calls Tryd.prog 7 #[v] w fun e w' => e = .returned (erV (enLs l)) ∧ Below w.heap.size w w' := by
  obtain ⟨b, hb⟩ : ∃ b, b = enLs l := ⟨_, rfl⟩
  have HL : Hid (Calls Tryd.prog 18 #[v, .int .i64 4, .func (.func 19) #[] #[]] w fun e w' => e = .returned (.bool b) ∧ Hid (Below w.heap.size w w')) := by rw [hb]; exact isListE v l w h hsz
  have HE : Hid (∀ V : World, Calls Tryd.prog 17 #[.bool b] V fun e w' => e = .returned (erV b) ∧ w' = V) := errorUnless_any b
  rw [← hb]
  clear hb h hsz
  go_enter Tryd.func7, Tryd.ntmps7
  go_wp2_with fail
  go_at_call 18
  refine (HL.out).mono ?_
  rintro e w1 ⟨rfl, HB⟩
  go_wp2_with fail
  go_at_call 17
  refine (HE.out _).mono ?_
  rintro e w2 ⟨rfl, rfl⟩
  go_wp2
  all_goals (go_ret; exact ⟨rfl, HB.out⟩)

theorem aclCheckIds (v : Value) (l : List IdT) (w : World) (h : SI w v l) (hsz : ∀ x ∈ l, x.2.size ≤ 4294967296) : Calls Tryd.prog 8 #[v] w fun e w' => e = .returned (erV (idLs l)) ∧ Below w.heap.size w w' := by
  obtain ⟨b, hb⟩ : ∃ b, b = idLs l := ⟨_, rfl⟩
  have HL : Hid (Calls Tryd.prog 20 #[v, .int .i64 4, .func (.func 21) #[] #[]] w fun e w' => e = .returned (.bool b) ∧ Hid (Below w.heap.size w w')) := by rw [hb]; exact isListI v l w h hsz
  have HE : Hid (∀ V : World, Calls Tryd.prog 17 #[.bool b] V fun e w' => e = .returned (erV b) ∧ w' = V) := errorUnless_any b
  rw [← hb]
  clear hb h hsz
  go_enter Tryd.func8, Tryd.ntmps8
  go_wp2_with fail
  go_at_call 20
  refine (HL.out).mono ?_
  rintro e w1 ⟨rfl, HB⟩
  go_wp2_with fail
  go_at_call 17
  refine (HE.out _).mono ?_
  rintro e w2 ⟨rfl, rfl⟩
  go_wp2
  all_goals (go_ret; exact ⟨rfl, HB.out⟩)

def isAu (x : EnT) : Bool := x.2.1.toList == [97, 117, 116, 104]

theorem isAuth_any (x : EnT) (w : World) : Calls Tryd.prog 26 #[.agg (enCs x)] w fun e w' => e = .returned (.bool (isAu x)) ∧ Below w.heap.size w w' := by
  obtain ⟨p, sc, nm⟩ := x
  have HB : Hid (Below w.heap.size w (w.alloc (.cells (enCs (p, sc, nm)) 28))) := (Below.refl _ w).alloc (Nat.le_refl _) _
  cases hb : isAu (p, sc, nm)
  · have h1 : (sc.toList == [97, 117, 116, 104]) = false := hb
    clear hb
    go_enter Tryd.func26, Tryd.ntmps26
    go_wp2
    all_goals (go_ret; exact ⟨rfl, HB.out⟩)
  · have h1 : (sc.toList == [97, 117, 116, 104]) = true := hb
    clear hb
    go_enter Tryd.func26, Tryd.ntmps26
    go_wp2
    all_goals (go_ret; exact ⟨rfl, HB.out⟩)

/-- The world holds an entry. -/
def HoldE (eb : Nat) (y : EnT) (V : World) : Prop := V.heap[eb]? = some (.cells (enCs y) 28 (0, 0))

set_option maxHeartbeats 1000000 in
theorem granted1_any (eb : Nat) (y : EnT) (x : IdT) (hs : y.2.2.size ≤ 4294967296) (ht : x.2.size ≤ 4294967296) (w : World) (h : HoldE eb y w) : Calls Tryd.prog 32 #[.agg (idCs x), .pointer (some ⟨eb, 0, none⟩)] w fun e w' => e = .returned (.bool (metD y.2.1.data.toList y.2.2.data.toList x.1.data.toList x.2.data.toList)) ∧ Below w.heap.size w w' := by
  obtain ⟨b, hb⟩ : ∃ b, b = metD y.2.1.data.toList y.2.2.data.toList x.1.data.toList x.2.data.toList := ⟨_, rfl⟩
  have hB : Below w.heap.size w (w.alloc (.cells (idCs x) 26)) := (Below.refl _ w).alloc (Nat.le_refl _) _
  have HM : Hid (Calls Tryd.prog 33 #[.agg #[.string y.2.1, .string y.2.2], .agg #[.string x.1, .string x.2]] (w.alloc (.cells (idCs x) 26)) fun e w' => e = .returned (.bool b) ∧ Hid (Below w.heap.size w w')) := by
    rw [hb]
    exact (meets_gen y.2.1 y.2.2 x.1 x.2 hs ht _).mono (fun e w' hh => ⟨hh.1, hB.trans (hh.2.mono hB.size)⟩)
  have c1 : w.cell? ⟨eb, 1, none⟩ = some (.string y.2.1) := cell_of_row w eb 1 _ _ _ h
  have c2 : w.cell? ⟨eb, 2, none⟩ = some (.string y.2.2) := cell_of_row w eb 2 _ _ _ h
  have hl := lt_of_block h
  rw [← hb]
  clear hb hB h
  go_enter Tryd.func32, Tryd.ntmps32
  go_wp2_with (go_at_call 33; refine (HM.out).mono ?_; rintro e w1 ⟨rfl, HB⟩)
  all_goals (go_ret; exact ⟨rfl, HB.out⟩)

set_option maxHeartbeats 1000000 in
theorem indexFE (v : Value) (l : List EnT) (w : World) (h : SE w v l) (hlen : l.length ≤ 1000) : Calls Tryd.prog 35 #[v, .func (.func 26) #[] #[]] w fun e w' => (∃ r : Int, e = .returned (.int .i64 r) ∧ decide (0 ≤ r) = l.any (fun x => isAu x)) ∧ Below w.heap.size w w' := by
  obtain ⟨ao, cap, rfl, hcap, hc⟩ := h
  have HC0 : Hid (l ≠ [] → ∃ b off, ao = some ⟨b, off, none⟩ ∧ ∀ i x, l[i]? = some x → w.cell? ⟨b, off + i * 3, none⟩ = some (.int .i8 x.1) ∧ w.cell? ⟨b, off + i * 3 + 1, none⟩ = some (.string x.2.1) ∧ w.cell? ⟨b, off + i * 3 + 2, none⟩ = some (.string x.2.2)) := hc
  clear hc
  go_enter Tryd.func35, Tryd.ntmps35
  go_wp2
  go_loopw [8] (fun vi wr => ∃ i : Nat, i ≤ l.length ∧ vi = .int .i64 (i : Int) ∧ Hid ((l.take i).any (fun x => isAu x) = false) ∧ Hid (Below w.heap.size w wr)) (fun vi _ => l.length - (intOf vi).toNat)
  case atStart => exact ⟨0, by omega, rfl, by show _ = _; simp, Below.refl _ _⟩
  case round =>
    obtain ⟨i, hi, rfl, HA, HW⟩ := hrel
    by_cases hlt : i < l.length
    · have hd : decide ((i : Int) < (l.length : Int)) = true := by simp; omega
      obtain ⟨b, off, hao, hcx⟩ := HC0.out (fun e => by rw [e] at hlt; simp at hlt)
      obtain ⟨x, hx⟩ : ∃ x, l[i]? = some x := ⟨_, List.getElem?_eq_getElem hlt⟩
      obtain ⟨k0, k1, k2⟩ := hcx i x hx
      have l0 := cell_below HW.out k0
      have l1 := cell_below HW.out k1
      have l2 := cell_below HW.out k2
      obtain ⟨bb, hbb⟩ : ∃ bb, bb = (isAu x) := ⟨_, rfl⟩
      have HF : Hid (Calls Tryd.prog 26 #[.agg (enCs x)] wr fun e w' => e = .returned (.bool bb) ∧ Hid (Below w.heap.size w w')) := by
        rw [hbb]
        exact (isAuth_any x wr).mono (fun e w' hh => ⟨hh.1, HW.out.trans (hh.2.mono HW.out.size)⟩)
      have HN : Hid ((l.take (i + 1)).any (fun x => isAu x) = bb) := by
        show _ = _
        rw [List.take_add_one, hx, List.any_append, HA.out, hbb]
        simp
      have HX : Hid (l[i]? = some x ∧ bb = (isAu x)) := ⟨hx, hbb⟩
      subst hao
      clear hcx hx hbb k0 k1 k2
      go_wp2_with fail
      go_at_call 26
      refine (HF.out).mono ?_
      rintro e w1 ⟨rfl, HB1⟩
      cases bb
      · go_wp2
        go_roundw
        case rel => exact ⟨i + 1, by omega, by simp, HN, HB1⟩
        case measure => simp [intOf]; omega
      · have HT : Hid (l.any (fun x => isAu x) = true) := by
          show _ = _
          rw [List.any_eq_true]
          exact ⟨x, List.mem_of_getElem? HX.out.1, HX.out.2.symm⟩
        go_wp2
        all_goals (go_ret; exact ⟨⟨i, rfl, by rw [HT.out]; simp⟩, HB1.out⟩)
    · have hd : decide ((i : Int) < (l.length : Int)) = false := by simp; omega
      have HE : Hid (l.any (fun x => isAu x) = false) := by
        have := HA.out
        rw [List.take_of_length_le (by omega)] at this
        exact this
      go_wp2
      all_goals (go_ret; exact ⟨⟨-1, rfl, by rw [HE.out]; rfl⟩, HW.out⟩)

theorem containsFE (v : Value) (l : List EnT) (w : World) (h : SE w v l) (hlen : l.length ≤ 1000) : Calls Tryd.prog 25 #[v, .func (.func 26) #[] #[]] w fun e w' => e = .returned (.bool (l.any (fun x => isAu x))) ∧ Below w.heap.size w w' := by
  obtain ⟨b, hb⟩ : ∃ b : Bool, b = l.any (fun x => isAu x) := ⟨_, rfl⟩
  have HI : Hid (Calls Tryd.prog 35 #[v, .func (.func 26) #[] #[]] w fun e w' => ∃ r : Int, e = .returned (.int .i64 r) ∧ decide (0 ≤ r) = b ∧ Hid (Below w.heap.size w w')) := by
    rw [hb]
    exact (indexFE v l w h hlen).mono (fun e w' hh => by obtain ⟨⟨r, h1, h2⟩, h3⟩ := hh; exact ⟨r, h1, h2, h3⟩)
  rw [← hb]
  clear hb h
  go_enter Tryd.func25, Tryd.ntmps25
  go_wp2_with (go_at_call 35; refine (HI.out).mono ?_; rintro e w1 ⟨r, rfl, hr, HB⟩)
  all_goals (go_ret; exact ⟨by rw [← hr]; rfl, HB.out⟩)

set_option maxHeartbeats 1000000 in
theorem indexFI (eb : Nat) (y : EnT) (hs : y.2.2.size ≤ 4294967296) (v : Value) (l : List IdT) (w : World) (h : SI w v l) (hlen : l.length ≤ 1000) (hsz : ∀ x ∈ l, x.2.size ≤ 4294967296) (hE : HoldE eb y w) : Calls Tryd.prog 41 #[v, .func (.func 32) #[] #[.pointer (some ⟨eb, 0, none⟩)]] w fun e w' => (∃ r : Int, e = .returned (.int .i64 r) ∧ decide (0 ≤ r) = l.any (fun x => metD y.2.1.data.toList y.2.2.data.toList x.1.data.toList x.2.data.toList)) ∧ Below w.heap.size w w' := by
  obtain ⟨ao, cap, rfl, hcap, hc⟩ := h
  have HC0 : Hid (l ≠ [] → ∃ b off, ao = some ⟨b, off, none⟩ ∧ ∀ i x, l[i]? = some x → w.cell? ⟨b, off + i * 2, none⟩ = some (.string x.1) ∧ w.cell? ⟨b, off + i * 2 + 1, none⟩ = some (.string x.2)) := hc
  have HZ : Hid ((∀ x ∈ l, x.2.size ≤ 4294967296) ∧ HoldE eb y w) := ⟨hsz, hE⟩
  clear hsz hE
  clear hc
  go_enter Tryd.func41, Tryd.ntmps41
  go_wp2
  go_loopw [8] (fun vi wr => ∃ i : Nat, i ≤ l.length ∧ vi = .int .i64 (i : Int) ∧ Hid ((l.take i).any (fun x => metD y.2.1.data.toList y.2.2.data.toList x.1.data.toList x.2.data.toList) = false) ∧ Hid (Below w.heap.size w wr)) (fun vi _ => l.length - (intOf vi).toNat)
  case atStart => exact ⟨0, by omega, rfl, by show _ = _; simp, Below.refl _ _⟩
  case round =>
    obtain ⟨i, hi, rfl, HA, HW⟩ := hrel
    by_cases hlt : i < l.length
    · have hd : decide ((i : Int) < (l.length : Int)) = true := by simp; omega
      obtain ⟨b, off, hao, hcx⟩ := HC0.out (fun e => by rw [e] at hlt; simp at hlt)
      obtain ⟨x, hx⟩ : ∃ x, l[i]? = some x := ⟨_, List.getElem?_eq_getElem hlt⟩
      obtain ⟨k0, k1⟩ := hcx i x hx
      have l0 := cell_below HW.out k0
      have l1 := cell_below HW.out k1
      obtain ⟨bb, hbb⟩ : ∃ bb, bb = (metD y.2.1.data.toList y.2.2.data.toList x.1.data.toList x.2.data.toList) := ⟨_, rfl⟩
      have HF : Hid (Calls Tryd.prog 32 #[.agg (idCs x), .pointer (some ⟨eb, 0, none⟩)] wr fun e w' => e = .returned (.bool bb) ∧ Hid (Below w.heap.size w w')) := by
        rw [hbb]
        exact (granted1_any eb y x hs (HZ.out.1 x (List.mem_of_getElem? hx)) wr ((HW.out.block _ (lt_of_block HZ.out.2)).trans HZ.out.2)).mono (fun e w' hh => ⟨hh.1, HW.out.trans (hh.2.mono HW.out.size)⟩)
      have HN : Hid ((l.take (i + 1)).any (fun x => metD y.2.1.data.toList y.2.2.data.toList x.1.data.toList x.2.data.toList) = bb) := by
        show _ = _
        rw [List.take_add_one, hx, List.any_append, HA.out, hbb]
        simp
      have HX : Hid (l[i]? = some x ∧ bb = (metD y.2.1.data.toList y.2.2.data.toList x.1.data.toList x.2.data.toList)) := ⟨hx, hbb⟩
      subst hao
      clear hcx hx hbb k0 k1
      go_wp2_with fail
      go_at_call 32
      refine (HF.out).mono ?_
      rintro e w1 ⟨rfl, HB1⟩
      cases bb
      · go_wp2
        go_roundw
        case rel => exact ⟨i + 1, by omega, by simp, HN, HB1⟩
        case measure => simp [intOf]; omega
      · have HT : Hid (l.any (fun x => metD y.2.1.data.toList y.2.2.data.toList x.1.data.toList x.2.data.toList) = true) := by
          show _ = _
          rw [List.any_eq_true]
          exact ⟨x, List.mem_of_getElem? HX.out.1, HX.out.2.symm⟩
        go_wp2
        all_goals (go_ret; exact ⟨⟨i, rfl, by rw [HT.out]; simp⟩, HB1.out⟩)
    · have hd : decide ((i : Int) < (l.length : Int)) = false := by simp; omega
      have HE : Hid (l.any (fun x => metD y.2.1.data.toList y.2.2.data.toList x.1.data.toList x.2.data.toList) = false) := by
        have := HA.out
        rw [List.take_of_length_le (by omega)] at this
        exact this
      go_wp2
      all_goals (go_ret; exact ⟨⟨-1, rfl, by rw [HE.out]; rfl⟩, HW.out⟩)

theorem containsFI (eb : Nat) (y : EnT) (hs : y.2.2.size ≤ 4294967296) (v : Value) (l : List IdT) (w : World) (h : SI w v l) (hlen : l.length ≤ 1000) (hsz : ∀ x ∈ l, x.2.size ≤ 4294967296) (hE : HoldE eb y w) : Calls Tryd.prog 34 #[v, .func (.func 32) #[] #[.pointer (some ⟨eb, 0, none⟩)]] w fun e w' => e = .returned (.bool (l.any (fun x => metD y.2.1.data.toList y.2.2.data.toList x.1.data.toList x.2.data.toList))) ∧ Below w.heap.size w w' := by
  obtain ⟨b, hb⟩ : ∃ b : Bool, b = l.any (fun x => metD y.2.1.data.toList y.2.2.data.toList x.1.data.toList x.2.data.toList) := ⟨_, rfl⟩
  have HI : Hid (Calls Tryd.prog 41 #[v, .func (.func 32) #[] #[.pointer (some ⟨eb, 0, none⟩)]] w fun e w' => ∃ r : Int, e = .returned (.int .i64 r) ∧ decide (0 ≤ r) = b ∧ Hid (Below w.heap.size w w')) := by
    rw [hb]
    exact (indexFI eb y hs v l w h hlen hsz hE).mono (fun e w' hh => by obtain ⟨⟨r, h1, h2⟩, h3⟩ := hh; exact ⟨r, h1, h2, h3⟩)
  rw [← hb]
  clear hb h
  go_enter Tryd.func34, Tryd.ntmps34
  go_wp2_with (go_at_call 41; refine (HI.out).mono ?_; rintro e w1 ⟨r, rfl, hr, HB⟩)
  all_goals (go_ret; exact ⟨by rw [← hr]; rfl, HB.out⟩)

theorem hasAuth_any (v : Value) (l : List EnT) (w : World) (h : SE w v l) (hlen : l.length ≤ 1000) : Calls Tryd.prog 15 #[v] w fun e w' => e = .returned (.bool (l.any isAu)) ∧ Below w.heap.size w w' := by
  obtain ⟨b, hb⟩ : ∃ b, b = l.any isAu := ⟨_, rfl⟩
  have HC : Hid (Calls Tryd.prog 25 #[v, .func (.func 26) #[] #[]] w fun e w' => e = .returned (.bool b) ∧ Hid (Below w.heap.size w w')) := by rw [hb]; exact containsFE v l w h hlen
  rw [← hb]
  clear hb h
  go_enter Tryd.func15, Tryd.ntmps15
  go_wp2_with (go_at_call 25; refine (HC.out).mono ?_; rintro e w1 ⟨rfl, HB⟩)
  all_goals (go_ret; exact ⟨rfl, HB.out⟩)

/-- A fixed list. -/
def fxLs (l : List EnT) : Bool := enLs l && decide (0 < l.length) && !(l.any isAu)

end Go.Proofs.YtapnaknbidmnmaaDoor
