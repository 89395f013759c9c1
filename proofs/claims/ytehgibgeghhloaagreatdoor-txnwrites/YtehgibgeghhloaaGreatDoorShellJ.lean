/- SpareRequests and SpareRequest of lagoonref00: the marks behind a wide request's lists stand. -/
import Derived.Test.YtehgibgeghhloaaGreatDoorWdBJ
import Derived.Test.YtehgibgeghhloaaGreatDoorWdDJ
import Derived.Test.YtehgibgeghhloaaGreatDoorReaderJ
import Derived.Test.YtehgibgeghhloaaGreatDoorLeafSumJ
import Derived.Test.YtehgibgeghhloaaGreatDoorCopyLJ
import Derived.ProofKit
import Derived.OpenShut
import Derived.ShutString
import Derived.ChangeOld
namespace Go.Proofs.YtehgibgeghhloaaGreatDoor
open Go.RowKit Go.Shelf
set_option maxRecDepth 8000

theorem WidR.below {w w' : World} {g : Nat} {cs : List (List Value)} (h : WidR w g cs) (hb : Below w.heap.size w w') : WidR w' g cs := by
  have hg : g < w.heap.size := by obtain ⟨_, ho, _⟩ := h; exact (ho.lt g rfl).2
  exact h.kept (Below.kept hb) (fun e => by omega)

set_option maxHeartbeats 4000000 in
theorem spareRequests_of (n : Nat) (ops : Fin n → Rq) (oc : Fin n → List Value) (g : Nat) (w : World) (ho : WidR w g (List.ofFn oc)) (hs : ∀ i, SeesRq w (oc i) (ops i)) (hn : n ≤ 20000)
    (hI : ∀ (i : Fin n) (W : World), Below w.heap.size w W → Calls Tryz.prog 10 #[.agg (oc i).toArray] W fun e w' => e = .returned (.bool true) ∧ Below W.heap.size W w') :
    Calls Tryz.prog 36 #[.slice (some ⟨g, 0, none⟩) n (n + 64)] w fun e w' => e = .returned (.bool true) ∧ Below w.heap.size w w' := by
  have HI : Hid _ := hI
  have HS : Hid (WidR w g (List.ofFn oc) ∧ ∀ i, SeesRq w (oc i) (ops i)) := ⟨ho, hs⟩
  clear ho hs hI
  go_enter Tryz.func36, Tryz.ntmps36
  go_wp2_with fail
  go_loop [4] (fun i => ∃ k : Nat, n ≤ k ∧ k ≤ n + 64 ∧ i = .int .i64 k) (fun i => n + 64 - (intOf i).toNat)
  case atStart => exact ⟨n, Nat.le_refl _, by omega, rfl⟩
  case round =>
    obtain ⟨k, hk0, hk, rfl⟩ := hrel
    by_cases hlt : k < n + 64
    · have hc := HS.out.1.mark k (by rw [List.length_ofFn]; exact hk0) (by rw [List.length_ofFn]; exact hlt)
      go_wp2_with fail
      go_round
      case rel => exact ⟨k + 1, by omega, by omega, by go_num⟩
      case measure => simp [intOf]; omega
    · obtain rfl : k = n + 64 := by omega
      go_wp2_with fail
      go_loopw [5] (fun i wr => ∃ k : Nat, k ≤ n ∧ i = .int .i64 k ∧ Hid (Below w.heap.size w wr)) (fun i _ => n - (intOf i).toNat)
      case atStart => exact ⟨0, Nat.zero_le _, rfl, Below.refl _ _⟩
      case round =>
        obtain ⟨k, hk, rfl, HB⟩ := hrel
        by_cases hlx : k < n
        · have hat : ∀ j, j < 11 → wr.cell? ⟨g, k * 11 + j, none⟩ = some ((oc ⟨k, hlx⟩).getD j (.bool false)) := fun j hj => by
            have := (HS.out.1.below HB.out).cell k (by rw [List.length_ofFn]; exact hlx) j hj
            simpa using this
          obtain ⟨qx0, qx1, dx0, dx1, dx2, ax0, ax1, ax2, qx4, qx5, qx6, qx7, qx8, ex0, ex1, ex2, ox0, ox1, ox2, hcs⟩ := rq_forms (HS.out.2 ⟨k, hlx⟩)
          have HX := HI.out ⟨k, hlx⟩ wr HB.out
          rw [hcs] at hat HX
          have g0 : wr.cell? ⟨g, k * 11, none⟩ = some (.int .i8 qx0) := hat 0 (by omega)
          have g1 : wr.cell? ⟨g, k * 11 + 1, none⟩ = some (.string qx1) := hat 1 (by omega)
          have g2 : wr.cell? ⟨g, k * 11 + 2, none⟩ = some (.slice dx0 dx1 dx2) := hat 2 (by omega)
          have g3 : wr.cell? ⟨g, k * 11 + 3, none⟩ = some (.slice ax0 ax1 ax2) := hat 3 (by omega)
          have g4 : wr.cell? ⟨g, k * 11 + 4, none⟩ = some (.int .i32 qx4) := hat 4 (by omega)
          have g5 : wr.cell? ⟨g, k * 11 + 5, none⟩ = some (.bool qx5) := hat 5 (by omega)
          have g6 : wr.cell? ⟨g, k * 11 + 6, none⟩ = some (.bool qx6) := hat 6 (by omega)
          have g7 : wr.cell? ⟨g, k * 11 + 7, none⟩ = some (.int .i64 qx7) := hat 7 (by omega)
          have g8 : wr.cell? ⟨g, k * 11 + 8, none⟩ = some (.int .i32 qx8) := hat 8 (by omega)
          have g9 : wr.cell? ⟨g, k * 11 + 9, none⟩ = some (.slice ex0 ex1 ex2) := hat 9 (by omega)
          have g10 : wr.cell? ⟨g, k * 11 + 10, none⟩ = some (.slice ox0 ox1 ox2) := hat 10 (by omega)
          clear hat hcs
          go_wp2_with fail
          refine HX.mono ?_
          rintro e w5 ⟨rfl, b5⟩
          have HR : Hid (Below w.heap.size w w5) := HB.out.trans (b5.mono HB.out.size)
          clear HX b5 g0 g1 g2 g3 g4 g5 g6 g7 g8 g9 g10
          go_wp2_with fail
          go_roundw
          case rel => exact ⟨k + 1, by omega, by go_num, HR⟩
          case measure => simp [intOf]; omega
        · go_wp2_with fail
          go_ret
          exact ⟨rfl, HB.out⟩

set_option maxHeartbeats 4000000 in
theorem spareRequest_any (r : Rq) : ∀ (F : Nat → Prop) (cs : List Value) (w : World), WidQ w F cs r → (∀ k, F k → k < w.heap.size) → r.parts ≤ 20000 → Tab w → 1 < w.heap.size →
    Calls Tryz.prog 10 #[.agg cs.toArray] w fun e w' => e = .returned (.bool true) ∧ Below w.heap.size w w' := by
  induction r with
  | mk f n ops ih =>
    intro F cs w hcs hF hp ht hg0
    obtain ⟨gd, ga, gw, go, oc, rfl, hd, ha, hw, ho, fd, fa, fw, fo, hs⟩ := hcs.inv
    rw [Rq.parts_eq] at hp
    have hpn := partsTo_le ops n (Nat.le_refl _)
    have hfp : f.parts = 1 + f.data.length + f.acl.length + f.who.length := rfl
    have hpi : ∀ i : Fin n, (ops i).parts ≤ 20000 := fun i => by have := part_le ops i; omega
    obtain ⟨kind, path, data, acl, ver, eph, seq, ses, tmo, who⟩ := f
    simp only at hd ha hw hfp
    have hnot : ∀ k, F k → ¬ w.heap.size ≤ k := fun k hk => by have := hF k hk; omega
    have HD : Hid (∀ W : World, Below w.heap.size w W → Calls Tryz.prog 33 #[.slice (some ⟨gd, 0, none⟩) data.length (data.length + 64)] W fun e w' => e = .returned (.bool true) ∧ w' = W) := fun W hW =>
      spareBytes_any gd data (wide data) W (hd.kept (Below.kept hW) (hnot _ fd)) (wide_len data) (fun j h1 h2 => by rw [wide_nth data j h2, if_neg (by omega)]) (by omega)
    have HA : Hid (∀ W : World, Below w.heap.size w W → Calls Tryz.prog 34 #[.slice (some ⟨ga, 0, none⟩) acl.length (acl.length + 64)] W fun e w' => e = .returned (.bool true) ∧ Below W.heap.size W w') := fun W hW =>
      spareAcl_rq ga acl W (ha.kept (Below.kept hW) (hnot _ fa)) (by omega) (ht.below hW hg0) (Nat.lt_of_lt_of_le hg0 hW.size)
    have HW : Hid (∀ W : World, Below w.heap.size w W → Calls Tryz.prog 35 #[.slice (some ⟨gw, 0, none⟩) who.length (who.length + 64)] W fun e w' => e = .returned (.bool true) ∧ Below W.heap.size W w') := fun W hW =>
      spareIds_rq gw who W (hw.kept (Below.kept hW) (hnot _ fw)) (by omega) (ht.below hW hg0) (Nat.lt_of_lt_of_le hg0 hW.size)
    have HO : Hid (∀ W : World, Below w.heap.size w W → Calls Tryz.prog 36 #[.slice (some ⟨go, 0, none⟩) n (n + 64)] W fun e w' => e = .returned (.bool true) ∧ Below W.heap.size W w') := fun W hW =>
      spareRequests_of n ops oc go W (ho.kept (Below.kept hW) (hnot _ fo)) (fun i => ((hs i).sees (hpi i)).later hW (Nat.le_refl _)) (by omega)
        (fun i V hV => ih i F (oc i) V (WidQ.kept (Below.kept (hW.trans (hV.mono hW.size))) (fun k hk => ⟨hnot k hk, hk⟩) (hs i)) (fun k hk => Nat.lt_of_lt_of_le (hF k hk) (hW.trans (hV.mono hW.size)).size) (hpi i) (ht.below (hW.trans (hV.mono hW.size)) hg0) (Nat.lt_of_lt_of_le hg0 (hW.trans (hV.mono hW.size)).size))
    clear hd ha hw hcs ho ih hs hp hpn hfp hpi ht hg0 fd fa fw fo hF hnot
    simp only [rqCells]
    obtain ⟨V, eV⟩ : ∃ V, V = w.alloc (.cells #[.int .i8 kind, .string path, .slice (some ⟨gd, 0, none⟩) data.length (data.length + 64), .slice (some ⟨ga, 0, none⟩) acl.length (acl.length + 64), .int .i32 ver, .bool eph, .bool seq, .int .i64 ses, .int .i32 tmo, .slice (some ⟨gw, 0, none⟩) who.length (who.length + 64), .slice (some ⟨go, 0, none⟩) n (n + 64)] 33) := ⟨_, rfl⟩
    have HV : Hid (Below w.heap.size w V ∧ w.heap.size < V.heap.size ∧ V.cell? ⟨w.heap.size, 2, none⟩ = some (.slice (some ⟨gd, 0, none⟩) data.length (data.length + 64)) ∧ V.cell? ⟨w.heap.size, 3, none⟩ = some (.slice (some ⟨ga, 0, none⟩) acl.length (acl.length + 64)) ∧ V.cell? ⟨w.heap.size, 9, none⟩ = some (.slice (some ⟨gw, 0, none⟩) who.length (who.length + 64)) ∧ V.cell? ⟨w.heap.size, 10, none⟩ = some (.slice (some ⟨go, 0, none⟩) n (n + 64))) := by
      subst eV
      refine ⟨one_alloc w _, by simp, ?_, ?_, ?_, ?_⟩ <;> (rw [cell_of_row _ _ _ _ _ _ (heap_alloc_new _ _)]; rfl)
    have HE : Hid _ := eV
    clear eV
    go_enter Tryz.func10, Tryz.ntmps10
    go_wp2_with fail
    rw [← HE.out]
    have c3 := HV.out.2.2.2.1
    refine (HD.out _ HV.out.1).mono ?_
    rintro e w1 ⟨rfl, rfl⟩
    clear HD HE
    go_wp2_with fail
    clear c3
    refine (HA.out _ HV.out.1).mono ?_
    rintro e w2 ⟨rfl, b2⟩
    have HB2 : Hid (Below w.heap.size w w2 ∧ w2.cell? ⟨w.heap.size, 10, none⟩ = some (.slice (some ⟨go, 0, none⟩) n (n + 64)) ∧ w.heap.size < w2.heap.size) := ⟨HV.out.1.trans (b2.mono HV.out.1.size), cell_later HV.out.2.2.2.2.2 b2 (Nat.le_refl _), Nat.lt_of_lt_of_le HV.out.2.1 b2.size⟩
    have c9 := cell_later HV.out.2.2.2.2.1 b2 (Nat.le_refl _)
    clear HA b2 HV
    go_wp2_with fail
    clear c9
    refine (HW.out _ HB2.out.1).mono ?_
    rintro e w3 ⟨rfl, b3⟩
    have HB3 : Hid (Below w.heap.size w w3) := HB2.out.1.trans (b3.mono HB2.out.1.size)
    have c10 := cell_later HB2.out.2.1 b3 (Nat.le_refl _)
    clear HW b3 HB2
    go_wp2_with fail
    clear c10
    refine (HO.out _ HB3.out).mono ?_
    rintro e w4 ⟨rfl, b4⟩
    have HB4 : Hid (Below w.heap.size w w4) := HB3.out.trans (b4.mono HB3.out.size)
    clear HO b4 HB3
    go_wp2_with fail
    go_ret
    exact ⟨rfl, HB4.out⟩
end Go.Proofs.YtehgibgeghhloaaGreatDoor

/- What the statements' own first look 'works' answers: true; nothing that was there before is changed. -/
namespace Go.Proofs.YtehgibgeghhloaaGreatDoor
open Go.RowKit
set_option maxRecDepth 8000

theorem byts_lit {xs : List Int} (h : xs.all (fun x => decide (0 ≤ x ∧ x ≤ 255)) = true) : Byts xs := fun x hx => by
  have := List.all_eq_true.1 h x hx
  simpa using this

theorem below_writer {B : Nat} {w w' : World} {g : Nat} {v : Value} (h : Kept w w' (fun k => k = g ∨ v.ownBlock = some k)) (hB : B ≤ w.heap.size) (hg : B ≤ g) (hv : ∀ k, v.ownBlock = some k → B ≤ k) : Below B w w' := by
  refine h.below hB (fun k hk => ?_)
  rcases hk with hk | hk
  · omega
  · exact hv k hk

theorem below_reader {B : Nat} {w w' : World} {g : Nat} (h : Kept w w' (· = g)) (hB : B ≤ w.heap.size) (hg : B ≤ g) : Below B w w' :=
  h.below hB (fun k hk => by omega)

theorem works_e1 : rdNum 4 [255, 255, 255, 254, 9] 0 = ⟨4294967294, [9], 0⟩ := by simp [rdNum, num]
theorem works_e2 : down32 4294967294 = -2 := by rw [down32_is _ (by omega) (by omega)]; simp
theorem works_e3 : adler [97, 98, 99] = 38600999 := by decide

end Go.Proofs.YtehgibgeghhloaaGreatDoor
/- What a law's walk is told of a slice of integers that came in, and what follows for slices of bytes; no Go function is walked here. -/
namespace Go.Proofs.YtehgibgeghhloaaGreatDoor
open Go.ChangeShapes Go.WideShapes Go.ChangeAt Go.RowKit
set_option maxRecDepth 8000

theorem Tryz.own : ownKnob Tryz.prog.godebug = none := by kernel_rfl
theorem Tryz.laidOut : laidOutB Tryz.prog = true := by kernel_rfl

/-- A slice of integers that came in: it is nil; or it leads to a row of 'cap' cells, the numbers 'zs' (the first 'len' are its elements), each fitting its kind. -/
def IsRow (k : IntKind) (w : World) (a : Option Addr) (len cap : Nat) (zs : List Int) : Prop :=
  (a = none ∧ len = 0 ∧ cap = 0 ∧ zs = []) ∨
  ∃ x, a = some x ∧ len ≤ cap ∧ cap ≤ maxLen ∧ zs.length = cap ∧ (∀ i, i < zs.length → w.cell? (x.add i) = some (.int k (zs.getD i 0))) ∧ ∀ n ∈ zs, (Lit.int k n).wf = true

theorem sees_row {w : World} {a : Option Addr} {len cap : Nat} {zs : List Int} (h : IsRow .u8 w a len cap zs) : ∃ xs, xs.length = len ∧ Sees w (.slice a len cap) xs ∧ Byts xs := by
  rcases h with ⟨rfl, rfl, rfl, rfl⟩ | ⟨x, rfl, h1, h2, h3, h4, h5⟩
  · exact ⟨[], rfl, sees_nil w, fun x hx => by simp at hx⟩
  · have hl : (zs.take len).length = len := by simp; omega
    refine ⟨zs.take len, hl, ⟨some x, cap, by rw [hl], by omega, h2, fun e => by simp at e, ?_⟩, ?_⟩
    · by_cases h0 : len = 0
      · subst h0; exact .inl (by simp)
      · obtain ⟨b, off, spot⟩ := x
        have hc := h4 0 (by omega)
        have hspot : spot = none := by simpa [Addr.add] using World.cell?_spot hc
        subst hspot
        refine .inr ⟨b, off, rfl, fun i hi => ?_⟩
        have := h4 i (by omega)
        rw [addr_add] at this
        rw [this]
        have hi' : i < len := by omega
        simp [List.getD_eq_getElem?_getD, hi']
    · intro x hx
      have := h5 x (List.mem_of_mem_take hx)
      exact bounds_u8 this

theorem xor_byte (x y : Int) (h0 : 0 ≤ x) (h1 : x ≤ 255) (h2 : 0 ≤ y) (h3 : y ≤ 255) : 0 ≤ bits .xor .u8 x y ∧ bits .xor .u8 x y ≤ 255 := by
  rw [u8_xor x y (by omega) (by omega) (by omega) (by omega)]
  have : x.toNat ^^^ y.toNat < 2 ^ 8 := Nat.xor_lt_two_pow (by omega) (by omega)
  omega

theorem byts_set {xs : List Int} (h : Byts xs) (k : Nat) (x : Int) (h0 : 0 ≤ x) (h1 : x ≤ 255) : Byts (xs.set k x) := fun y hy => by
  rcases List.mem_or_eq_of_mem_set hy with hy | rfl
  · exact h y hy
  · exact ⟨h0, h1⟩

theorem byts_wide {xs : List Int} (h : Byts xs) : Byts (wide xs) := fun y hy => by
  simp only [wide, List.mem_map, List.mem_range] at hy
  obtain ⟨i, _, rfl⟩ := hy
  split
  · exact h.nth i
  · omega

end Go.Proofs.YtehgibgeghhloaaGreatDoor
