/- What WideBytes and SpareBytes of lagoonref00 answer: the bytes with 64 marks behind them in their spare room; whether these marks stand. -/
import Derived.Test.YtobnggkgpenmfaaGreatDoorRqLJ
import Derived.Test.YtobnggkgpenmfaaGreatDoorWeCJ
import Derived.Maps.AppendAt
namespace Go.Proofs.YtobnggkgpenmfaaGreatDoor
open Go.RowKit
set_option maxRecDepth 8000

/-- A round of WideBytes: the mark is laid. -/
theorem wide_rel1 {B k : Nat} {w wr : World} {xs zs : List Int} (hzl : zs.length = xs.length + 64) (hk : k < xs.length + 64) (x : Int) (hx : x = (wide xs).getD k 0)
    (hown : Owns wr B (.slice (some ⟨B, 0, none⟩) zs.length (xs.length + 64)) zs) (hpt : ∀ j, j < k → zs.getD j 0 = (wide xs).getD j 0) (hbel : Below B w wr) :
    ∃ zs' : List Int, zs'.length = xs.length + 64 ∧ Owns (wr.setCell ⟨B, k, none⟩ (.int .u8 x)) B (.slice (some ⟨B, 0, none⟩) zs'.length (xs.length + 64)) zs' ∧
      (∀ j, j < k + 1 → zs'.getD j 0 = (wide xs).getD j 0) ∧ Below B w (wr.setCell ⟨B, k, none⟩ (.int .u8 x)) := by
  refine ⟨zs.set k x, by simpa using hzl, (owns_set hown k x).1, fun j hj => ?_, hbel.setCell (Nat.le_refl _) _⟩
  rw [nth_set zs k j x (by omega)]
  by_cases h : j = k
  · rw [if_pos h, h, hx]
  · rw [if_neg h]; exact hpt j (by omega)

theorem wide_rel2 {B k : Nat} {w wr : World} {xs zs : List Int} (hzl : zs.length = xs.length + 64) (hk : k < xs.length + 64) (y x : Int) (hx : x = (wide xs).getD k 0)
    (hown : Owns wr B (.slice (some ⟨B, 0, none⟩) zs.length (xs.length + 64)) zs) (hpt : ∀ j, j < k → zs.getD j 0 = (wide xs).getD j 0) (hbel : Below B w wr) :
    ∃ zs' : List Int, zs'.length = xs.length + 64 ∧ Owns ((wr.setCell ⟨B, k, none⟩ (.int .u8 y)).setCell ⟨B, k, none⟩ (.int .u8 x)) B (.slice (some ⟨B, 0, none⟩) zs'.length (xs.length + 64)) zs' ∧
      (∀ j, j < k + 1 → zs'.getD j 0 = (wide xs).getD j 0) ∧ Below B w ((wr.setCell ⟨B, k, none⟩ (.int .u8 y)).setCell ⟨B, k, none⟩ (.int .u8 x)) := by
  refine wide_rel1 (zs := zs.set k y) (by simpa using hzl) hk x hx (owns_set hown k y).1 (fun j hj => ?_) (hbel.setCell (Nat.le_refl _) _)
  rw [nth_set zs k j y (by omega), if_neg (by omega)]; exact hpt j hj

set_option maxHeartbeats 400000 in
theorem wideBytes_any (v : Value) (xs : List Int) (w : World) (h : Sees w v xs) (hreach : xs.length ≤ 70000000000000) :
    Calls Tryz.prog 56 #[v] w fun e w' => e = .returned (.slice (some ⟨w.heap.size, 0, none⟩) xs.length (xs.length + 64)) ∧
      Owns w' w.heap.size (.slice (some ⟨w.heap.size, 0, none⟩) (wide xs).length (xs.length + 64)) (wide xs) ∧ Below w.heap.size w w' := by
  obtain ⟨ao, cap, rfl, hlc, hcm, _, h3⟩ := h
  unfold maxLen at hcm
  obtain ⟨i0, hi, hz0, hz1, hz2⟩ := info_parts Tryz.infoByte
  go_enter Tryz.func56, Tryz.ntmps56
  go_wp2_with (at_make; refine wpList_make_full _ rfl _ _ 42 rfl w.heap.size 5 i0 (.int .u8 0) 1 Tryz.underlying42 hi hz0 hz1 .i64 .i64 _ _ (xs.length + 64) rfl rfl (by omega) (by omega) (by rw [hz2]; omega) (by unfold maxLen; omega) (Nat.le_refl _) ?_)
  intro w0 hown0 hgrow0
  have hown1 := made_owns hown0
  have hbel0 : Below w.heap.size w w0 := (Below.refl _ _).grown hgrow0 (Nat.le_refl _) (fun k hk => by simp at hk)
  clear hown0 hgrow0
  go_wp2
  go_loopw [4] (fun i wr => ∃ (k : Nat) (zs : List Int), k ≤ xs.length + 64 ∧ i = .int .i64 k ∧ zs.length = xs.length + 64 ∧ Owns wr w.heap.size (.slice (some ⟨w.heap.size, 0, none⟩) zs.length (xs.length + 64)) zs ∧ (∀ j, j < k → zs.getD j 0 = (wide xs).getD j 0) ∧ Below w.heap.size w wr) (fun i _ => xs.length + 64 - (intOf i).toNat)
  case atStart => exact ⟨0, _, Nat.zero_le _, rfl, by simp, hown1, fun j hj => by omega, hbel0⟩
  case round =>
    clear hown1 hbel0 w0
    obtain ⟨k, zs, hk, rfl, hzl, hown, hpt, hbel⟩ := hrel
    have HZ : Hid _ := hzl
    have HP : Hid _ := hpt
    have HO : Hid (Owns wr w.heap.size (.slice (some ⟨w.heap.size, 0, none⟩) zs.length (xs.length + 64)) zs) := hown
    clear hpt hzl
    by_cases hlt : k < xs.length + 64
    · have hcz := owns_cell hown k (by rw [HZ.out]; omega)
      have hfz := hown.frozenAt k
      have HW : Hid _ := wide_nth xs k hlt
      clear hown
      by_cases hlx : k < xs.length
      · rcases h3 with h3 | ⟨b, off, rfl, h3⟩
        · subst h3; simp at hlx
        · have hc := cell_later (h3 k hlx) hbel (Nat.le_refl _)
          have hbB : b < w.heap.size := by have := World.block_lt_of_cell? w _ (h3 k hlx); simpa using this
          have hne : ¬ b = w.heap.size := by omega
          have hne' : ¬ w.heap.size = b := by omega
          have hw1 := HW.out
          rw [if_pos hlx] at hw1
          have HX : Hid _ := hw1.symm
          clear h3 HW hw1
          generalize xs.getD k 0 = x at *
          go_wp2
          have R := wide_rel2 HZ.out hlt (170 + (k : Int) % 5) x HX.out HO.out HP.out hbel
          obtain ⟨zs', r1, r2, r3, r4⟩ := R
          go_roundw
          case rel => exact ⟨k + 1, zs', by omega, by go_num, r1, r2, r3, r4⟩
          case measure => simp [intOf]; omega
      · have hw1 := HW.out
        rw [if_neg hlx] at hw1
        have HX : Hid _ := hw1.symm
        clear HW hw1
        go_wp2
        have R := wide_rel1 HZ.out hlt (170 + (k : Int) % 5) HX.out HO.out HP.out hbel
        obtain ⟨zs', r1, r2, r3, r4⟩ := R
        go_roundw
        case rel => exact ⟨k + 1, zs', by omega, by go_num, r1, r2, r3, r4⟩
        case measure => simp [intOf]; omega
    · have he : zs = wide xs := list_of_nths (by rw [HZ.out, wide_len]) (fun j hj => HP.out j (by have := HZ.out; omega))
      have HO1 := HO.out
      rw [he] at HO1
      have HO2 : Hid (Owns wr w.heap.size (.slice (some ⟨w.heap.size, 0, none⟩) (wide xs).length (xs.length + 64)) (wide xs)) := HO1
      clear HO HO1 he HP HZ hown
      go_wp2
      go_ret
      exact ⟨rfl, HO2.out, hbel⟩

/-- SpareBytes of a slice that WideBytes laid: true where the 64 marks behind it stand; the slice's own bytes may be others by now. -/
theorem spareBytes_any (g : Nat) (xs zs : List Int) (w : World) (hown : Owns w g (.slice (some ⟨g, 0, none⟩) zs.length (xs.length + 64)) zs) (hzl : zs.length = xs.length + 64)
    (hsp : ∀ j, xs.length ≤ j → j < xs.length + 64 → zs.getD j 0 = 170 + (j : Int) % 5) (hreach : xs.length ≤ 70000000000000) :
    Calls Tryz.prog 36 #[.slice (some ⟨g, 0, none⟩) xs.length (xs.length + 64)] w fun e w' => e = .returned (.bool true) ∧ w' = w := by
  have HZ : Hid _ := hzl
  have HO : Hid (Owns w g (.slice (some ⟨g, 0, none⟩) zs.length (xs.length + 64)) zs) := hown
  have HP : Hid _ := hsp
  clear hzl hown hsp
  generalize xs.length = n at *
  go_enter Tryz.func36, Tryz.ntmps36
  go_wp2
  go_loop [4] (fun i => ∃ k : Nat, n ≤ k ∧ k ≤ n + 64 ∧ i = .int .i64 k) (fun i => n + 64 - (intOf i).toNat)
  case atStart => exact ⟨n, by omega, by omega, rfl⟩
  case round =>
    obtain ⟨k, hk0, hk1, rfl⟩ := hrel
    by_cases hlt : k < n + 64
    · have hc := owns_cell HO.out k (by rw [HZ.out]; omega)
      rw [HP.out k hk0 hlt] at hc
      go_wp2
      go_round
      case rel => exact ⟨k + 1, by omega, by omega, by go_num⟩
      case measure => simp [intOf]; omega
    · go_wp2
      go_ret
      exact ⟨rfl, rfl⟩
end Go.Proofs.YtobnggkgpenmfaaGreatDoor

/- A request whose lists are wide: marks stand behind each of them. No Go function is walked here. -/
namespace Go.Proofs.YtobnggkgpenmfaaGreatDoor
open Go.RowKit
set_option maxRecDepth 8000

/-- Bytes with marks behind them, in block g. -/
def WidB (w : World) (g : Nat) (xs : List Int) : Prop := Owns w g (.slice (some ⟨g, 0, none⟩) (wide xs).length (xs.length + 64)) (wide xs)

theorem WidB.kept {w w' : World} {S : Nat → Prop} {g : Nat} {xs : List Int} (h : WidB w g xs) (hk : Kept w w' S) (hS : ¬ S g) : WidB w' g xs :=
  ownsRow_kept h hk (fun k hk e => by cases hk; exact hS e)

/-- What a mark among requests has. -/
def rqMark (j : Nat) : List Value := [.int .i8 0, .string ⟨#[]⟩, .slice none 0 0, .slice none 0 0, .int .i32 0, .bool false, .bool false, .int .i64 (-3000000 - (j : Int)), .int .i32 0, .slice none 0 0, .slice none 0 0]

/-- Requests' cells with marks behind them, in block g. -/
def WidR (w : World) (g : Nat) (cs : List (List Value)) : Prop := ∃ fl : List Value, w.ownsRow g 47 11 (.slice (some ⟨g, 0, none⟩) (cs.length + 64) (cs.length + 64)) (cs.length + 64) fl ∧ (∀ i (_ : i < cs.length) j, j < 11 → fl[i * 11 + j]? = some (cs[i].getD j (.bool false))) ∧ ∀ i, cs.length ≤ i → i < cs.length + 64 → ∀ j, j < 11 → fl[i * 11 + j]? = some ((rqMark i).getD j (.bool false))

theorem WidR.kept {w w' : World} {S : Nat → Prop} {g : Nat} {cs : List (List Value)} (h : WidR w g cs) (hk : Kept w w' S) (hS : ¬ S g) : WidR w' g cs := by
  obtain ⟨fl, h1, h2, h3⟩ := h
  exact ⟨fl, ownsRow_kept h1 hk (fun k hk e => by cases hk; exact hS e), h2, h3⟩

theorem WidR.cell {w : World} {g : Nat} {cs : List (List Value)} (h : WidR w g cs) (i : Nat) (hi : i < cs.length) (j : Nat) (hj : j < 11) : w.cell? ⟨g, i * 11 + j, none⟩ = some (cs[i].getD j (.bool false)) := by
  obtain ⟨fl, h1, h2, h3⟩ := h
  rw [h1.cellAt _ (by omega), h2 i hi j hj]

theorem WidR.mark {w : World} {g : Nat} {cs : List (List Value)} (h : WidR w g cs) (i : Nat) (hi : cs.length ≤ i) (hi' : i < cs.length + 64) : w.cell? ⟨g, i * 11 + 7, none⟩ = some (.int .i64 (-3000000 - (i : Int))) := by
  obtain ⟨fl, h1, h2, h3⟩ := h
  rw [h1.cellAt _ (by omega), h3 i hi hi' 7 (by omega)]
  rfl

/-- The cells cs are those of the request r; each of its lists is wide and lies in a block of F. -/
inductive WidQ (w : World) (F : Nat → Prop) : List Value → Rq → Prop where
  | mk (f : RqF) (n : Nat) (ops : Fin n → Rq) (gd ga gw go : Nat) (oc : Fin n → List Value)
      (hd : WidB w gd f.data) (ha : WidE w ga f.acl) (hw : WidI w gw f.who) (ho : WidR w go (List.ofFn oc))
      (fd : F gd) (fa : F ga) (fw : F gw) (fo : F go)
      (hs : ∀ i : Fin n, WidQ w F (oc i) (ops i)) :
      WidQ w F (rqCells f (.slice (some ⟨gd, 0, none⟩) f.data.length (f.data.length + 64)) (.slice (some ⟨ga, 0, none⟩) f.acl.length (f.acl.length + 64)) (.slice (some ⟨gw, 0, none⟩) f.who.length (f.who.length + 64)) (.slice (some ⟨go, 0, none⟩) n (n + 64))) (.mk f n ops)

theorem WidQ.kept {w w' : World} {S F F' : Nat → Prop} (hk : Kept w w' S) (hF : ∀ k, F k → ¬ S k ∧ F' k) {cs : List Value} {r : Rq} (h : WidQ w F cs r) : WidQ w' F' cs r := by
  induction h with
  | mk f n ops gd ga gw go oc hd ha hw ho fd fa fw fo _ ih =>
    exact .mk f n ops gd ga gw go oc (hd.kept hk (hF _ fd).1) (ha.kept hk (hF _ fa).1) (hw.kept hk (hF _ fw).1) (ho.kept hk (hF _ fo).1) (hF _ fd).2 (hF _ fa).2 (hF _ fw).2 (hF _ fo).2 ih

theorem WidQ.inv {w : World} {F : Nat → Prop} {cs : List Value} {f : RqF} {n : Nat} {ops : Fin n → Rq} (h : WidQ w F cs (.mk f n ops)) : ∃ gd ga gw go oc, cs = rqCells f (.slice (some ⟨gd, 0, none⟩) f.data.length (f.data.length + 64)) (.slice (some ⟨ga, 0, none⟩) f.acl.length (f.acl.length + 64)) (.slice (some ⟨gw, 0, none⟩) f.who.length (f.who.length + 64)) (.slice (some ⟨go, 0, none⟩) n (n + 64)) ∧ WidB w gd f.data ∧ WidE w ga f.acl ∧ WidI w gw f.who ∧ WidR w go (List.ofFn oc) ∧ F gd ∧ F ga ∧ F gw ∧ F go ∧ ∀ i : Fin n, WidQ w F (oc i) (ops i) := by
  cases h with
  | mk _ _ _ gd ga gw go oc hd ha hw ho fd fa fw fo hs => exact ⟨gd, ga, gw, go, oc, rfl, hd, ha, hw, ho, fd, fa, fw, fo, hs⟩

theorem WidB.sees {w : World} {g : Nat} {xs : List Int} (h : WidB w g xs) (hl : xs.length ≤ 70000000000000) : Sees w (.slice (some ⟨g, 0, none⟩) xs.length (xs.length + 64)) xs := by
  refine ⟨_, _, rfl, by omega, by unfold maxLen; omega, fun e => by simp at e, .inr ⟨g, 0, rfl, fun i hi => ?_⟩⟩
  have := owns_cell h i (by rw [wide_len]; omega)
  rw [wide_nth xs i (by omega), if_pos hi] at this
  rw [Nat.zero_add]
  exact this

theorem WidR.sees {w : World} {g : Nat} {cs : List (List Value)} (h : WidR w g cs) (hl : cs.length ≤ 2000000000) : SeesR w (.slice (some ⟨g, 0, none⟩) cs.length (cs.length + 64)) 11 cs := by
  refine ⟨_, _, rfl, by omega, by unfold maxLen; omega, fun e => by simp at e, .inr ⟨g, 0, rfl, fun i hi j hj => ?_⟩⟩
  rw [Nat.zero_add]
  exact h.cell i hi j hj

theorem WidQ.sees {w : World} {F : Nat → Prop} {cs : List Value} {r : Rq} (h : WidQ w F cs r) (hp : r.parts ≤ 20000) : SeesRq w cs r := by
  induction h with
  | mk f n ops gd ga gw go oc hd ha hw ho _ _ _ _ _ ih =>
    rw [Rq.parts_eq] at hp
    have hpn := partsTo_le ops n (Nat.le_refl _)
    have hfp : f.parts = 1 + f.data.length + f.acl.length + f.who.length := rfl
    have ho' := ho.sees (by rw [List.length_ofFn]; omega)
    rw [List.length_ofFn] at ho'
    exact .mk f n ops _ _ _ _ oc (hd.sees (by omega)) (ha.sees (by omega)) (hw.sees (by omega)) ho' (fun i => ih i (by have := part_le ops i; omega))

end Go.Proofs.YtobnggkgpenmfaaGreatDoor

/- WideRequests and WideRequest of lagoonref00: requests of their own, each list with marks behind it. -/
namespace Go.Proofs.YtobnggkgpenmfaaGreatDoor
open Go.RowKit Go.Shelf
set_option maxRecDepth 8000

/-- Eleven places of a list stored over. -/
theorem set11 (fl : List Value) (k : Nat) (hl : k * 11 + 11 ≤ fl.length) (c0 c1 c2 c3 c4 c5 c6 c7 c8 c9 c10 : Value) :
    (∀ i j, i ≠ k → j < 11 → (((((((((((fl.set (k * 11) (c0)).set (k * 11 + 1) (c1)).set (k * 11 + 2) (c2)).set (k * 11 + 3) (c3)).set (k * 11 + 4) (c4)).set (k * 11 + 5) (c5)).set (k * 11 + 6) (c6)).set (k * 11 + 7) (c7)).set (k * 11 + 8) (c8)).set (k * 11 + 9) (c9)).set (k * 11 + 10) (c10))[i * 11 + j]? = fl[i * 11 + j]?) ∧ ∀ j, j < 11 → (((((((((((fl.set (k * 11) (c0)).set (k * 11 + 1) (c1)).set (k * 11 + 2) (c2)).set (k * 11 + 3) (c3)).set (k * 11 + 4) (c4)).set (k * 11 + 5) (c5)).set (k * 11 + 6) (c6)).set (k * 11 + 7) (c7)).set (k * 11 + 8) (c8)).set (k * 11 + 9) (c9)).set (k * 11 + 10) (c10))[k * 11 + j]? = some (([c0, c1, c2, c3, c4, c5, c6, c7, c8, c9, c10] : List Value).getD j (.bool false)) := by
  refine ⟨fun i j hi hj => ?_, fun j hj => ?_⟩
  · rw [List.getElem?_set_ne (by omega), List.getElem?_set_ne (by omega), List.getElem?_set_ne (by omega), List.getElem?_set_ne (by omega), List.getElem?_set_ne (by omega), List.getElem?_set_ne (by omega), List.getElem?_set_ne (by omega), List.getElem?_set_ne (by omega), List.getElem?_set_ne (by omega), List.getElem?_set_ne (by omega), List.getElem?_set_ne (by omega)]
  · rcases (show j = 0 ∨ j = 1 ∨ j = 2 ∨ j = 3 ∨ j = 4 ∨ j = 5 ∨ j = 6 ∨ j = 7 ∨ j = 8 ∨ j = 9 ∨ j = 10 by omega) with rfl | rfl | rfl | rfl | rfl | rfl | rfl | rfl | rfl | rfl | rfl
    · simp only [Nat.add_zero]; rw [List.getElem?_set_ne (by omega), List.getElem?_set_ne (by omega), List.getElem?_set_ne (by omega), List.getElem?_set_ne (by omega), List.getElem?_set_ne (by omega), List.getElem?_set_ne (by omega), List.getElem?_set_ne (by omega), List.getElem?_set_ne (by omega), List.getElem?_set_ne (by omega), List.getElem?_set_ne (by omega), List.getElem?_set_self (by first | omega | (simp only [List.length_set]; omega))]; rfl
    · rw [List.getElem?_set_ne (by omega), List.getElem?_set_ne (by omega), List.getElem?_set_ne (by omega), List.getElem?_set_ne (by omega), List.getElem?_set_ne (by omega), List.getElem?_set_ne (by omega), List.getElem?_set_ne (by omega), List.getElem?_set_ne (by omega), List.getElem?_set_ne (by omega), List.getElem?_set_self (by first | omega | (simp only [List.length_set]; omega))]; rfl
    · rw [List.getElem?_set_ne (by omega), List.getElem?_set_ne (by omega), List.getElem?_set_ne (by omega), List.getElem?_set_ne (by omega), List.getElem?_set_ne (by omega), List.getElem?_set_ne (by omega), List.getElem?_set_ne (by omega), List.getElem?_set_ne (by omega), List.getElem?_set_self (by first | omega | (simp only [List.length_set]; omega))]; rfl
    · rw [List.getElem?_set_ne (by omega), List.getElem?_set_ne (by omega), List.getElem?_set_ne (by omega), List.getElem?_set_ne (by omega), List.getElem?_set_ne (by omega), List.getElem?_set_ne (by omega), List.getElem?_set_ne (by omega), List.getElem?_set_self (by first | omega | (simp only [List.length_set]; omega))]; rfl
    · rw [List.getElem?_set_ne (by omega), List.getElem?_set_ne (by omega), List.getElem?_set_ne (by omega), List.getElem?_set_ne (by omega), List.getElem?_set_ne (by omega), List.getElem?_set_ne (by omega), List.getElem?_set_self (by first | omega | (simp only [List.length_set]; omega))]; rfl
    · rw [List.getElem?_set_ne (by omega), List.getElem?_set_ne (by omega), List.getElem?_set_ne (by omega), List.getElem?_set_ne (by omega), List.getElem?_set_ne (by omega), List.getElem?_set_self (by first | omega | (simp only [List.length_set]; omega))]; rfl
    · rw [List.getElem?_set_ne (by omega), List.getElem?_set_ne (by omega), List.getElem?_set_ne (by omega), List.getElem?_set_ne (by omega), List.getElem?_set_self (by first | omega | (simp only [List.length_set]; omega))]; rfl
    · rw [List.getElem?_set_ne (by omega), List.getElem?_set_ne (by omega), List.getElem?_set_ne (by omega), List.getElem?_set_self (by first | omega | (simp only [List.length_set]; omega))]; rfl
    · rw [List.getElem?_set_ne (by omega), List.getElem?_set_ne (by omega), List.getElem?_set_self (by first | omega | (simp only [List.length_set]; omega))]; rfl
    · rw [List.getElem?_set_ne (by omega), List.getElem?_set_self (by first | omega | (simp only [List.length_set]; omega))]; rfl
    · rw [List.getElem?_set_self (by first | omega | (simp only [List.length_set]; omega))]; rfl

/-- The same in memory. -/
theorem own11 {w : World} {g N k : Nat} {t : TypeId} {fl : List Value} (h : w.ownsRow g t 11 (.slice (some ⟨g, 0, none⟩) N N) N fl) (c0 c1 c2 c3 c4 c5 c6 c7 c8 c9 c10 : Value) :
    (((((((((((w.setCell ⟨g, k * 11, none⟩ (c0)).setCell ⟨g, k * 11 + 1, none⟩ (c1)).setCell ⟨g, k * 11 + 2, none⟩ (c2)).setCell ⟨g, k * 11 + 3, none⟩ (c3)).setCell ⟨g, k * 11 + 4, none⟩ (c4)).setCell ⟨g, k * 11 + 5, none⟩ (c5)).setCell ⟨g, k * 11 + 6, none⟩ (c6)).setCell ⟨g, k * 11 + 7, none⟩ (c7)).setCell ⟨g, k * 11 + 8, none⟩ (c8)).setCell ⟨g, k * 11 + 9, none⟩ (c9)).setCell ⟨g, k * 11 + 10, none⟩ (c10)).ownsRow g t 11 (.slice (some ⟨g, 0, none⟩) N N) N (((((((((((fl.set (k * 11) (c0)).set (k * 11 + 1) (c1)).set (k * 11 + 2) (c2)).set (k * 11 + 3) (c3)).set (k * 11 + 4) (c4)).set (k * 11 + 5) (c5)).set (k * 11 + 6) (c6)).set (k * 11 + 7) (c7)).set (k * 11 + 8) (c8)).set (k * 11 + 9) (c9)).set (k * 11 + 10) (c10)) ∧ Kept w (((((((((((w.setCell ⟨g, k * 11, none⟩ (c0)).setCell ⟨g, k * 11 + 1, none⟩ (c1)).setCell ⟨g, k * 11 + 2, none⟩ (c2)).setCell ⟨g, k * 11 + 3, none⟩ (c3)).setCell ⟨g, k * 11 + 4, none⟩ (c4)).setCell ⟨g, k * 11 + 5, none⟩ (c5)).setCell ⟨g, k * 11 + 6, none⟩ (c6)).setCell ⟨g, k * 11 + 7, none⟩ (c7)).setCell ⟨g, k * 11 + 8, none⟩ (c8)).setCell ⟨g, k * 11 + 9, none⟩ (c9)).setCell ⟨g, k * 11 + 10, none⟩ (c10)) (fun q => q = g) := by
  refine ⟨?_, ?_⟩
  · exact (((((((((((h.stored (k * 11) c0).1.stored (k * 11 + 1) c1).1.stored (k * 11 + 2) c2).1.stored (k * 11 + 3) c3).1.stored (k * 11 + 4) c4).1.stored (k * 11 + 5) c5).1.stored (k * 11 + 6) c6).1.stored (k * 11 + 7) c7).1.stored (k * 11 + 8) c8).1.stored (k * 11 + 9) c9).1.stored (k * 11 + 10) c10).1
  · exact (((((((((((Kept.refl w (fun q => q = g)).setCell ⟨g, k * 11, none⟩ c0 (fun _ => rfl)).setCell ⟨g, k * 11 + 1, none⟩ c1 (fun _ => rfl)).setCell ⟨g, k * 11 + 2, none⟩ c2 (fun _ => rfl)).setCell ⟨g, k * 11 + 3, none⟩ c3 (fun _ => rfl)).setCell ⟨g, k * 11 + 4, none⟩ c4 (fun _ => rfl)).setCell ⟨g, k * 11 + 5, none⟩ c5 (fun _ => rfl)).setCell ⟨g, k * 11 + 6, none⟩ c6 (fun _ => rfl)).setCell ⟨g, k * 11 + 7, none⟩ c7 (fun _ => rfl)).setCell ⟨g, k * 11 + 8, none⟩ c8 (fun _ => rfl)).setCell ⟨g, k * 11 + 9, none⟩ c9 (fun _ => rfl)).setCell ⟨g, k * 11 + 10, none⟩ c10 (fun _ => rfl)

/-- What stands after k rounds. -/
def WrI (w wr : World) (g n : Nat) (ops : Fin n → Rq) (k : Nat) : Prop :=
  Below g w wr ∧ ∃ (fl : List Value) (E : Nat → List Value), wr.ownsRow g 47 11 (.slice (some ⟨g, 0, none⟩) (n + 64) (n + 64)) (n + 64) fl ∧ (∀ i, i < k → i < n + 64 → ∀ j, j < 11 → fl[i * 11 + j]? = some ((E i).getD j (.bool false))) ∧
    (∀ i (hi : i < n), i < k → WidQ wr (fun q => g < q ∧ q < wr.heap.size) (E i) (ops ⟨i, hi⟩)) ∧ ∀ i, n ≤ i → i < k → E i = rqMark i

/-- A round: the next element is laid. -/
theorem WrI_step {w wr w5 : World} {g n k : Nat} {ops : Fin n → Rq} {c0 c1 c2 c3 c4 c5 c6 c7 c8 c9 c10 : Value} (hg : g < wr.heap.size) (h : WrI w wr g n ops k) (hk : k < n + 64) (b5 : Below wr.heap.size wr w5)
    (hq : ∀ hi : k < n, WidQ w5 (fun q => wr.heap.size ≤ q ∧ q < w5.heap.size) [c0, c1, c2, c3, c4, c5, c6, c7, c8, c9, c10] (ops ⟨k, hi⟩)) (hm : n ≤ k → [c0, c1, c2, c3, c4, c5, c6, c7, c8, c9, c10] = rqMark k) :
    WrI w (((((((((((w5.setCell ⟨g, k * 11, none⟩ (c0)).setCell ⟨g, k * 11 + 1, none⟩ (c1)).setCell ⟨g, k * 11 + 2, none⟩ (c2)).setCell ⟨g, k * 11 + 3, none⟩ (c3)).setCell ⟨g, k * 11 + 4, none⟩ (c4)).setCell ⟨g, k * 11 + 5, none⟩ (c5)).setCell ⟨g, k * 11 + 6, none⟩ (c6)).setCell ⟨g, k * 11 + 7, none⟩ (c7)).setCell ⟨g, k * 11 + 8, none⟩ (c8)).setCell ⟨g, k * 11 + 9, none⟩ (c9)).setCell ⟨g, k * 11 + 10, none⟩ (c10)) g n ops (k + 1) := by
  obtain ⟨hb, fl, E, h1, h2, h3, h4⟩ := h
  have h1' := ownsRow_kept h1 (Below.kept b5) (fun q hq e => by cases hq; exact absurd (show wr.heap.size ≤ g from e) (by omega))
  obtain ⟨o1, o2⟩ := own11 (k := k) h1' c0 c1 c2 c3 c4 c5 c6 c7 c8 c9 c10
  have hfl : fl.length = (n + 64) * 11 := h1.1
  obtain ⟨s1, s2⟩ := set11 fl k (by omega) c0 c1 c2 c3 c4 c5 c6 c7 c8 c9 c10
  have hs5 := b5.size
  have hs6 := o2.size
  refine ⟨(hb.trans (b5.mono (Nat.le_of_lt hg))).trans (o2.below (Nat.le_trans (Nat.le_of_lt hg) b5.size) (fun q e => by omega)), _, fun i => if i = k then [c0, c1, c2, c3, c4, c5, c6, c7, c8, c9, c10] else E i, o1, fun i hi hn j hj => ?_, fun i hi hk' => ?_, fun i hi hk' => ?_⟩
  · dsimp only
    by_cases e : i = k
    · subst e
      rw [if_pos rfl]
      exact s2 j hj
    · rw [if_neg e, s1 i j e hj]
      exact h2 i (by omega) hn j hj
  · dsimp only
    by_cases e : i = k
    · subst e
      rw [if_pos rfl]
      exact WidQ.kept o2 (fun q hq => ⟨fun e => by omega, by omega, by omega⟩) (hq hi)
    · rw [if_neg e]
      exact WidQ.kept o2 (fun q hq => ⟨fun e => by omega, hq⟩) (WidQ.kept (Below.kept b5) (fun q hq => ⟨fun e => by omega, hq.1, (by omega : q < _)⟩) (h3 i hi (by omega)))
  · dsimp only
    by_cases e : i = k
    · subst e
      rw [if_pos rfl]
      exact hm hi
    · rw [if_neg e]
      exact h4 i hi (by omega)

end Go.Proofs.YtobnggkgpenmfaaGreatDoor

/- WideRequests of lagoonref00: requests of their own with marks behind them, each by WideRequest's contract. -/
namespace Go.Proofs.YtobnggkgpenmfaaGreatDoor
open Go.RowKit Go.Shelf
set_option maxRecDepth 8000

set_option maxHeartbeats 4000000 in
theorem wideRequests_of (n : Nat) (ops : Fin n → Rq) (oc : Fin n → List Value) (v : Value) (w : World) (ho : SeesR w v 11 (List.ofFn oc)) (hs : ∀ i, SeesRq w (oc i) (ops i)) (hn : n ≤ 20000) (hp : ∀ i, (ops i).parts ≤ 20000)
    (hI : ∀ (i : Fin n) (W : World), Below w.heap.size w W → Calls Tryz.prog 34 #[.agg (oc i).toArray] W fun e w' => ∃ ds, e = .returned (.agg ds.toArray) ∧ WidQ w' (fun k => W.heap.size ≤ k ∧ k < w'.heap.size) ds (ops i) ∧ Below W.heap.size W w') :
    Calls Tryz.prog 59 #[v] w fun e w' => ∃ oc' : Fin n → List Value, e = .returned (.slice (some ⟨w.heap.size, 0, none⟩) n (n + 64)) ∧ WidR w' w.heap.size (List.ofFn oc') ∧ (∀ i, WidQ w' (fun k => w.heap.size < k ∧ k < w'.heap.size) (oc' i) (ops i)) ∧ Below w.heap.size w w' := by
  obtain ⟨oa, occ, e3⟩ := seesR_shape ho
  rw [List.length_ofFn] at e3
  subst e3
  have HI : Hid _ := hI
  have HS : Hid (SeesR w (.slice oa n occ) 11 (List.ofFn oc) ∧ (∀ i, SeesRq w (oc i) (ops i)) ∧ ∀ i, (ops i).parts ≤ 20000) := ⟨ho, hs, hp⟩
  have hcap : n ≤ occ ∧ occ ≤ 9223372036854775807 := by
    obtain ⟨a1, c1, q1, q2, q3, _⟩ := ho
    simp at q1 q2
    unfold maxLen at q3
    omega
  obtain ⟨hcx, hcx'⟩ := hcap
  clear ho hs hI hp
  obtain ⟨i0, hi, hz0, hz1, hz2⟩ := info_parts Tryz.infoRq
  go_enter Tryz.func59, Tryz.ntmps59
  go_wp2_with (at_make; refine wpList_make_full _ rfl _ _ 45 rfl w.heap.size 47 i0 (.agg rqZ) 11 Tryz.underlying45 hi hz0 hz1 .i64 .i64 _ _ (n + 64) rfl rfl (by omega) (by omega) (by rw [hz2]; omega) (by unfold maxLen; omega) (Nat.le_refl _) ?_)
  intro w0 hown0 hgrow0
  have hbel0 : Below w.heap.size w w0 := (Below.refl _ _).grown hgrow0 (Nat.le_refl _) (fun k hk => by simp at hk)
  have HO0 : Hid (WrI w w0 w.heap.size n ops 0 ∧ w.heap.size < w0.heap.size) := ⟨⟨hbel0, _, fun _ => [], hown0, fun i hi => by omega, fun i _ hi => by omega, fun i _ hi => by omega⟩, (hown0.lt w.heap.size rfl).2⟩
  clear hown0 hgrow0 hbel0 hi hz0 hz1 hz2
  go_wp2_with fail
  go_loopw [4] (fun i wr => ∃ k : Nat, k ≤ n + 64 ∧ i = .int .i64 k ∧ Hid (WrI w wr w.heap.size n ops k ∧ w.heap.size < wr.heap.size)) (fun i _ => n + 64 - (intOf i).toNat)
  case atStart => exact ⟨0, Nat.zero_le _, rfl, HO0⟩
  case round =>
    clear HO0 w0
    obtain ⟨k, hk, rfl, HO⟩ := hrel
    by_cases hlt : k < n + 64
    · by_cases hlx : k < n
      · obtain ⟨a1', c1', q1, _, _, _, h3⟩ := HS.out.1
        simp at q1
        obtain ⟨rfl, rfl⟩ := q1
        rcases h3 with h3 | ⟨b, off, rfl, h3⟩
        · have : n = 0 := by simpa using congrArg List.length h3
          omega
        have hbel := HO.out.1.1
        have hat : ∀ j, j < 11 → wr.cell? ⟨b, off + k * 11 + j, none⟩ = some ((oc ⟨k, hlx⟩).getD j (.bool false)) := fun j hj => by
          have := cell_later (h3 k (by simpa using hlx) j hj) hbel (Nat.le_refl _)
          simpa using this
        obtain ⟨qx0, qx1, dx0, dx1, dx2, ax0, ax1, ax2, qx4, qx5, qx6, qx7, qx8, ex0, ex1, ex2, ox0, ox1, ox2, hcs⟩ := rq_forms (HS.out.2.1 ⟨k, hlx⟩)
        have HX := HI.out ⟨k, hlx⟩ wr hbel
        rw [hcs] at hat HX
        have g0 : wr.cell? ⟨b, off + k * 11, none⟩ = some (.int .i8 qx0) := hat 0 (by omega)
        have g1 : wr.cell? ⟨b, off + k * 11 + 1, none⟩ = some (.string qx1) := hat 1 (by omega)
        have g2 : wr.cell? ⟨b, off + k * 11 + 2, none⟩ = some (.slice dx0 dx1 dx2) := hat 2 (by omega)
        have g3 : wr.cell? ⟨b, off + k * 11 + 3, none⟩ = some (.slice ax0 ax1 ax2) := hat 3 (by omega)
        have g4 : wr.cell? ⟨b, off + k * 11 + 4, none⟩ = some (.int .i32 qx4) := hat 4 (by omega)
        have g5 : wr.cell? ⟨b, off + k * 11 + 5, none⟩ = some (.bool qx5) := hat 5 (by omega)
        have g6 : wr.cell? ⟨b, off + k * 11 + 6, none⟩ = some (.bool qx6) := hat 6 (by omega)
        have g7 : wr.cell? ⟨b, off + k * 11 + 7, none⟩ = some (.int .i64 qx7) := hat 7 (by omega)
        have g8 : wr.cell? ⟨b, off + k * 11 + 8, none⟩ = some (.int .i32 qx8) := hat 8 (by omega)
        have g9 : wr.cell? ⟨b, off + k * 11 + 9, none⟩ = some (.slice ex0 ex1 ex2) := hat 9 (by omega)
        have g10 : wr.cell? ⟨b, off + k * 11 + 10, none⟩ = some (.slice ox0 ox1 ox2) := hat 10 (by omega)
        clear hat hcs h3 hbel
        go_wp2_with fail
        refine HX.mono ?_
        rintro e w5 ⟨ds, rfl, hr5, b5⟩
        obtain ⟨qy0, qy1, dy0, dy1, dy2, ay0, ay1, ay2, qy4, qy5, qy6, qy7, qy8, ey0, ey1, ey2, oy0, oy1, oy2, rfl⟩ := rq_forms (hr5.sees (HS.out.2.2 ⟨k, hlx⟩))
        have HR : Hid _ := And.intro (WrI_step HO.out.2 HO.out.1 hlt b5 (fun _ => hr5) (fun h => absurd hlx (by omega))) (Nat.lt_of_lt_of_le HO.out.2 b5.size)
        obtain ⟨_, fl, E, hown0, _⟩ := HO.out.1
        have hown := ownsRow_kept hown0 (Below.kept b5) (fun q hq e => by cases hq; exact absurd (show wr.heap.size ≤ w.heap.size from e) (by have := HO.out.2; omega))
        have hl : fl.length = (n + 64) * 11 := hown.1
        obtain ⟨u0, hu0⟩ : ∃ u, w5.cell? ⟨w.heap.size, k * 11, none⟩ = some u := ⟨fl[k * 11]'(by omega), by rw [hown.cellAt _ (by omega), List.getElem?_eq_getElem (by omega)]⟩
        obtain ⟨u1, hu1⟩ : ∃ u, w5.cell? ⟨w.heap.size, k * 11 + 1, none⟩ = some u := ⟨fl[k * 11 + 1]'(by omega), by rw [hown.cellAt _ (by omega), List.getElem?_eq_getElem (by omega)]⟩
        obtain ⟨u2, hu2⟩ : ∃ u, w5.cell? ⟨w.heap.size, k * 11 + 2, none⟩ = some u := ⟨fl[k * 11 + 2]'(by omega), by rw [hown.cellAt _ (by omega), List.getElem?_eq_getElem (by omega)]⟩
        obtain ⟨u3, hu3⟩ : ∃ u, w5.cell? ⟨w.heap.size, k * 11 + 3, none⟩ = some u := ⟨fl[k * 11 + 3]'(by omega), by rw [hown.cellAt _ (by omega), List.getElem?_eq_getElem (by omega)]⟩
        obtain ⟨u4, hu4⟩ : ∃ u, w5.cell? ⟨w.heap.size, k * 11 + 4, none⟩ = some u := ⟨fl[k * 11 + 4]'(by omega), by rw [hown.cellAt _ (by omega), List.getElem?_eq_getElem (by omega)]⟩
        obtain ⟨u5, hu5⟩ : ∃ u, w5.cell? ⟨w.heap.size, k * 11 + 5, none⟩ = some u := ⟨fl[k * 11 + 5]'(by omega), by rw [hown.cellAt _ (by omega), List.getElem?_eq_getElem (by omega)]⟩
        obtain ⟨u6, hu6⟩ : ∃ u, w5.cell? ⟨w.heap.size, k * 11 + 6, none⟩ = some u := ⟨fl[k * 11 + 6]'(by omega), by rw [hown.cellAt _ (by omega), List.getElem?_eq_getElem (by omega)]⟩
        obtain ⟨u7, hu7⟩ : ∃ u, w5.cell? ⟨w.heap.size, k * 11 + 7, none⟩ = some u := ⟨fl[k * 11 + 7]'(by omega), by rw [hown.cellAt _ (by omega), List.getElem?_eq_getElem (by omega)]⟩
        obtain ⟨u8, hu8⟩ : ∃ u, w5.cell? ⟨w.heap.size, k * 11 + 8, none⟩ = some u := ⟨fl[k * 11 + 8]'(by omega), by rw [hown.cellAt _ (by omega), List.getElem?_eq_getElem (by omega)]⟩
        obtain ⟨u9, hu9⟩ : ∃ u, w5.cell? ⟨w.heap.size, k * 11 + 9, none⟩ = some u := ⟨fl[k * 11 + 9]'(by omega), by rw [hown.cellAt _ (by omega), List.getElem?_eq_getElem (by omega)]⟩
        obtain ⟨u10, hu10⟩ : ∃ u, w5.cell? ⟨w.heap.size, k * 11 + 10, none⟩ = some u := ⟨fl[k * 11 + 10]'(by omega), by rw [hown.cellAt _ (by omega), List.getElem?_eq_getElem (by omega)]⟩
        have hfz0 := hown.frozenAt (k * 11)
        have hfz1 := hown.frozenAt (k * 11 + 1)
        have hfz2 := hown.frozenAt (k * 11 + 2)
        have hfz3 := hown.frozenAt (k * 11 + 3)
        have hfz4 := hown.frozenAt (k * 11 + 4)
        have hfz5 := hown.frozenAt (k * 11 + 5)
        have hfz6 := hown.frozenAt (k * 11 + 6)
        have hfz7 := hown.frozenAt (k * 11 + 7)
        have hfz8 := hown.frozenAt (k * 11 + 8)
        have hfz9 := hown.frozenAt (k * 11 + 9)
        have hfz10 := hown.frozenAt (k * 11 + 10)
        clear hown hown0 hl HX hr5 b5 HO HS HI g0 g1 g2 g3 g4 g5 g6 g7 g8 g9 g10
        go_wp2_with fail
        go_roundw
        case rel => exact ⟨k + 1, by omega, by go_num, ⟨HR.out.1, by simpa [World.setCell] using HR.out.2⟩⟩
        case measure => simp [intOf]; omega
      · have HR : Hid _ := And.intro (WrI_step (w5 := wr) HO.out.2 HO.out.1 hlt (Below.refl _ _) (fun h => absurd h hlx) (fun _ => rfl)) HO.out.2
        obtain ⟨_, fl, E, hown, _⟩ := HO.out.1
        have hl : fl.length = (n + 64) * 11 := hown.1
        obtain ⟨u0, hu0⟩ : ∃ u, wr.cell? ⟨w.heap.size, k * 11, none⟩ = some u := ⟨fl[k * 11]'(by omega), by rw [hown.cellAt _ (by omega), List.getElem?_eq_getElem (by omega)]⟩
        obtain ⟨u1, hu1⟩ : ∃ u, wr.cell? ⟨w.heap.size, k * 11 + 1, none⟩ = some u := ⟨fl[k * 11 + 1]'(by omega), by rw [hown.cellAt _ (by omega), List.getElem?_eq_getElem (by omega)]⟩
        obtain ⟨u2, hu2⟩ : ∃ u, wr.cell? ⟨w.heap.size, k * 11 + 2, none⟩ = some u := ⟨fl[k * 11 + 2]'(by omega), by rw [hown.cellAt _ (by omega), List.getElem?_eq_getElem (by omega)]⟩
        obtain ⟨u3, hu3⟩ : ∃ u, wr.cell? ⟨w.heap.size, k * 11 + 3, none⟩ = some u := ⟨fl[k * 11 + 3]'(by omega), by rw [hown.cellAt _ (by omega), List.getElem?_eq_getElem (by omega)]⟩
        obtain ⟨u4, hu4⟩ : ∃ u, wr.cell? ⟨w.heap.size, k * 11 + 4, none⟩ = some u := ⟨fl[k * 11 + 4]'(by omega), by rw [hown.cellAt _ (by omega), List.getElem?_eq_getElem (by omega)]⟩
        obtain ⟨u5, hu5⟩ : ∃ u, wr.cell? ⟨w.heap.size, k * 11 + 5, none⟩ = some u := ⟨fl[k * 11 + 5]'(by omega), by rw [hown.cellAt _ (by omega), List.getElem?_eq_getElem (by omega)]⟩
        obtain ⟨u6, hu6⟩ : ∃ u, wr.cell? ⟨w.heap.size, k * 11 + 6, none⟩ = some u := ⟨fl[k * 11 + 6]'(by omega), by rw [hown.cellAt _ (by omega), List.getElem?_eq_getElem (by omega)]⟩
        obtain ⟨u7, hu7⟩ : ∃ u, wr.cell? ⟨w.heap.size, k * 11 + 7, none⟩ = some u := ⟨fl[k * 11 + 7]'(by omega), by rw [hown.cellAt _ (by omega), List.getElem?_eq_getElem (by omega)]⟩
        obtain ⟨u8, hu8⟩ : ∃ u, wr.cell? ⟨w.heap.size, k * 11 + 8, none⟩ = some u := ⟨fl[k * 11 + 8]'(by omega), by rw [hown.cellAt _ (by omega), List.getElem?_eq_getElem (by omega)]⟩
        obtain ⟨u9, hu9⟩ : ∃ u, wr.cell? ⟨w.heap.size, k * 11 + 9, none⟩ = some u := ⟨fl[k * 11 + 9]'(by omega), by rw [hown.cellAt _ (by omega), List.getElem?_eq_getElem (by omega)]⟩
        obtain ⟨u10, hu10⟩ : ∃ u, wr.cell? ⟨w.heap.size, k * 11 + 10, none⟩ = some u := ⟨fl[k * 11 + 10]'(by omega), by rw [hown.cellAt _ (by omega), List.getElem?_eq_getElem (by omega)]⟩
        have hfz0 := hown.frozenAt (k * 11)
        have hfz1 := hown.frozenAt (k * 11 + 1)
        have hfz2 := hown.frozenAt (k * 11 + 2)
        have hfz3 := hown.frozenAt (k * 11 + 3)
        have hfz4 := hown.frozenAt (k * 11 + 4)
        have hfz5 := hown.frozenAt (k * 11 + 5)
        have hfz6 := hown.frozenAt (k * 11 + 6)
        have hfz7 := hown.frozenAt (k * 11 + 7)
        have hfz8 := hown.frozenAt (k * 11 + 8)
        have hfz9 := hown.frozenAt (k * 11 + 9)
        have hfz10 := hown.frozenAt (k * 11 + 10)
        clear hown hl HO HS HI
        go_wp2_with fail
        go_roundw
        case rel => exact ⟨k + 1, by omega, by go_num, ⟨HR.out.1, by simpa [World.setCell] using HR.out.2⟩⟩
        case measure => simp [intOf]; omega
    · obtain rfl : k = n + 64 := by omega
      clear HS HI
      go_wp2_with fail
      go_ret
      obtain ⟨⟨hbel, fl, E, h1, h2, h3, h4⟩, hg⟩ := HO.out
      refine ⟨fun i => E i.1, rfl, ⟨fl, ?_, fun i hi j hj => ?_, fun i hi hi' j hj => ?_⟩, fun i => h3 i.1 i.2 (by omega), hbel⟩
      · rw [List.length_ofFn]; exact h1
      · rw [List.length_ofFn] at hi
        rw [List.getElem_ofFn]
        exact h2 i (by omega) (by omega) j hj
      · rw [List.length_ofFn] at hi hi'
        rw [← h4 i hi hi']
        exact h2 i hi' hi' j hj

end Go.Proofs.YtobnggkgpenmfaaGreatDoor
