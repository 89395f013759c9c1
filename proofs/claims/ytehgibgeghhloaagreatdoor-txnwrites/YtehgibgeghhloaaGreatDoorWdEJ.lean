/- turned of the statements of layer 4: a request's lists are written over where they lie, each part by one of its form. -/
import Derived.Test.YtehgibgeghhloaaGreatDoorShellJ
import Derived.Test.YtehgibgeghhloaaGreatDoorWeCJ
import Derived.RegionTactic
import Derived.ChangeAlike
import Derived.Test.YtehgibgeghhloaaGreatDoorWdDJ
namespace Go.Proofs.YtehgibgeghhloaaGreatDoor
open Go.RowKit
set_option maxRecDepth 8000

/-- Written over: of the same form, in blocks of F alone. -/
structure Over (F : Nat → Prop) (w w' : World) : Prop where
  turns : Turns w w'
  kept : Kept w w' F
  froz : ∀ p, w'.frozen? p = w.frozen? p

theorem Over.refl (F : Nat → Prop) (w : World) : Over F w w := ⟨Turns.refl w, Kept.refl w F, fun _ => rfl⟩

theorem Over.set {F : Nat → Prop} {w wr : World} (h : Over F w wr) {g c : Nat} {u v : Value} (hc : w.cell? ⟨g, c, none⟩ = some u) (hf : FrmV u v) (hF : F g) : Over F w (wr.setCell ⟨g, c, none⟩ v) :=
  ⟨h.turns.set hc hf, h.kept.setCell ⟨g, c, none⟩ v (fun _ => hF), fun p => (World.frozen?_setCell _ _ _ _).trans (h.froz p)⟩

theorem Over.drew {F : Nat → Prop} {w wr : World} (h : Over F w wr) : Over F w wr.drew :=
  ⟨⟨fun g c u hc => h.turns.cell g c u hc⟩, ⟨h.kept.os, h.kept.tape, h.kept.output, h.kept.size, h.kept.block⟩, h.froz⟩

theorem wrap_i8 (n : Int) : IntKind.i8.wrap n = (n + 128) % 256 - 128 := by
  simp [IntKind.wrap, IntKind.bits, IntKind.signed]
  omega
theorem xor8 (x : Int) : -128 ≤ bits .xor .i8 x 1 ∧ bits .xor .i8 x 1 ≤ 127 := by
  unfold bits
  simp only [wrap_i8]
  omega

theorem WidQ.rqIn {w : World} {F : Nat → Prop} {cs : List Value} {r : Rq} (h : WidQ w F cs r) (hp : r.parts ≤ 20000) : RqIn w F cs r := by
  induction h with
  | mk f n ops gd ga gw go oc hd ha hw ho fd fa fw fo _ ih =>
    rw [Rq.parts_eq] at hp
    have hpn := partsTo_le ops n (Nat.le_refl _)
    have hfp : f.parts = 1 + f.data.length + f.acl.length + f.who.length := rfl
    have ho' := ho.sees (by rw [List.length_ofFn]; omega)
    rw [List.length_ofFn] at ho'
    exact .mk f n ops _ _ _ _ oc (hd.sees (by omega)) (ha.sees (by omega)) (hw.sees (by omega)) ho' (fun k e => by cases e; exact fd) (fun k e => by cases e; exact fa) (fun k e => by cases e; exact fw) (fun k e => by cases e; exact fo) (fun i => ih i (by have := part_le ops i; omega))

set_option maxHeartbeats 4000000 in
theorem turned_any (F : Nat → Prop) (f : RqF) (n : Nat) (ops : Fin n → Rq) (cs : List Value) (w : World) (h : WidQ w F cs (.mk f n ops)) (hp : (Rq.mk f n ops).parts ≤ 20000) (hg : f.good) (hF : ∀ k, F k → k < w.heap.size) :
    Calls Tryz.prog 14 #[.agg cs.toArray] w fun e w' => e = .returned (.tuple #[]) ∧ Turns w w' ∧ Kept w w' F := by
  obtain ⟨gd, ga, gw, go, oc, rfl, hd, ha, hw, ho, fd, fa, fw, fo, hs⟩ := h.inv
  rw [Rq.parts_eq] at hp
  have hpn := partsTo_le ops n (Nat.le_refl _)
  have hfp : f.parts = 1 + f.data.length + f.acl.length + f.who.length := rfl
  simp only [rqCells]
  obtain ⟨V, eV⟩ : ∃ V, V = w.alloc (.cells #[.int .i8 f.kind, .string f.path, .slice (some ⟨gd, 0, none⟩) f.data.length (f.data.length + 64), .slice (some ⟨ga, 0, none⟩) f.acl.length (f.acl.length + 64), .int .i32 f.ver, .bool f.eph, .bool f.seq, .int .i64 f.ses, .int .i32 f.tmo, .slice (some ⟨gw, 0, none⟩) f.who.length (f.who.length + 64), .slice (some ⟨go, 0, none⟩) n (n + 64)] 33) := ⟨_, rfl⟩
  have HV : Hid (Below w.heap.size w V) := by subst eV; exact one_alloc _ _
  have HC : Hid (V.cell? ⟨w.heap.size, 2, none⟩ = some (.slice (some ⟨gd, 0, none⟩) f.data.length (f.data.length + 64)) ∧ V.cell? ⟨w.heap.size, 3, none⟩ = some (.slice (some ⟨ga, 0, none⟩) f.acl.length (f.acl.length + 64)) ∧ V.cell? ⟨w.heap.size, 9, none⟩ = some (.slice (some ⟨gw, 0, none⟩) f.who.length (f.who.length + 64)) ∧ V.cell? ⟨w.heap.size, 10, none⟩ = some (.slice (some ⟨go, 0, none⟩) n (n + 64))) := by
    subst eV
    refine ⟨?_, ?_, ?_, ?_⟩ <;> (rw [cell_of_row _ _ _ _ _ _ (heap_alloc_new _ _)]; rfl)
  have HNF : Hid (¬ F w.heap.size) := fun e => by have := hF _ e; omega
  have hdV := hd.kept (Below.kept HV.out) (fun e => by have := hF _ fd; omega)
  have haV := ha.kept (Below.kept HV.out) (fun e => by have := hF _ fa; omega)
  have hwV := hw.kept (Below.kept HV.out) (fun e => by have := hF _ fw; omega)
  have hoV := ho.kept (Below.kept HV.out) (fun e => by have := hF _ fo; omega)
  have HW : Hid ((∀ k, k < f.data.length → V.cell? ⟨gd, k, none⟩ = some (.int .u8 (f.data.getD k 0))) ∧ (∀ k (hk : k < f.acl.length), V.cell? ⟨ga, k * 3, none⟩ = some (.int .i8 f.acl[k].perms)) ∧ (∀ k (hk : k < f.who.length), V.cell? ⟨gw, k * 2 + 1, none⟩ = some (.string f.who[k].name)) ∧ ∀ k, k < n → ∃ s, V.cell? ⟨go, k * 11 + 1, none⟩ = some (.string s)) := by
    obtain ⟨ce, ae, be⟩ := haV
    obtain ⟨ci, ai, bi⟩ := hwV
    refine ⟨fun k hk => ?_, fun k hk => ?_, fun k hk => ?_, fun k hk => ?_⟩
    · have := owns_cell hdV k (by rw [wide_len]; omega)
      rw [wide_nth f.data k (by omega), if_pos hk] at this
      exact this
    · rw [ae.cellAt _ (by omega), (be k (by omega)).1]
      simp [weE, hk]
    · rw [ai.cellAt _ (by omega), (bi k (by omega)).2]
      simp [weI, hk]
    · have h1 := hoV.cell k (by rw [List.length_ofFn]; exact hk) 1 (by omega)
      have h2 := (hs ⟨k, hk⟩).rqIn (by have := part_le ops ⟨k, hk⟩; omega)
      obtain ⟨q0, q1, d0, d1, d2, a0, a1, a2, q4, q5, q6, q7, q8, e0, e1, e2, o0, o1, o2, e⟩ := rq_forms h2.sees
      rw [List.getElem_ofFn] at h1
      rw [e] at h1
      exact ⟨q1, h1⟩
  have HFz : Hid ((∀ k, k < f.data.length → V.frozen? ⟨gd, k, none⟩ = false) ∧ (∀ k, k < f.acl.length → V.frozen? ⟨ga, k * 3, none⟩ = false) ∧ (∀ k, k < f.who.length → V.frozen? ⟨gw, k * 2 + 1, none⟩ = false) ∧ ∀ k, k < n → V.frozen? ⟨go, k * 11 + 1, none⟩ = false) := by
    obtain ⟨ce, ae, _⟩ := haV
    obtain ⟨ci, ai, _⟩ := hwV
    obtain ⟨cr, ar, _⟩ := hoV
    exact ⟨fun k _ => hdV.frozenAt k, fun k _ => ae.frozenAt _, fun k _ => ai.frozenAt _, fun k _ => ar.frozenAt _⟩
  have HFF : Hid (F gd ∧ F ga ∧ F gw ∧ F go) := ⟨fd, fa, fw, fo⟩
  have HBy : Hid (Byts f.data) := hg.byts
  have HGa : Hid (∀ x ∈ f.acl, -128 ≤ x.perms ∧ x.perms ≤ 127) := fun x hx => ⟨(hg.ae x hx).1, (hg.ae x hx).2.1⟩
  have HFIN : Hid (∀ W, Over F V W → Turns w W ∧ Kept w W F) := fun W hW => by
    refine ⟨⟨fun g c u hc => hW.turns.cell g c u (cell_later hc HV.out (Nat.le_refl _))⟩, (Below.kept HV.out |>.mono (S' := F) (fun k hk h => by omega)).trans hW.kept (fun _ _ h => h)⟩
  have HE : Hid _ := eV
  clear eV hd ha hw ho fd fa fw fo hs hdV haV hwV hoV hg hF h HV
  go_enter Tryz.func14, Tryz.ntmps14
  go_wp2_with fail
  rw [← HE.out]
  clear HE
  go_loopw [2] (fun i wr => ∃ k : Nat, k ≤ f.data.length ∧ i = .int .i64 k ∧ Hid (Over F V wr)) (fun i _ => f.data.length - (intOf i).toNat)
  case atStart => exact ⟨0, Nat.zero_le _, rfl, Over.refl _ _⟩
  case round =>
    obtain ⟨k, hk, rfl, HR⟩ := hrel
    have cb := HR.out.kept.cell HC.out.1 HNF.out
    by_cases hlt : k < f.data.length
    · have hc := HW.out.1 k hlt
      obtain ⟨u1, q1, q2⟩ := HR.out.turns.cell _ _ _ hc
      have hbx := HBy.out.nth k
      obtain ⟨y, rfl, y0, y1⟩ := frm_u8 q2 hbx.1 hbx.2
      have hfz : wr.frozen? ⟨gd, k, none⟩ = false := (HR.out.froz _).trans (HFz.out.1 k hlt)
      have hyb := xor_byte y 3 y0 y1 (by omega) (by omega)
      clear q2 hbx
      have HN : Hid _ := (HR.out.set hc (.byte _ _ hyb.1 hyb.2) HFF.out.1).drew
      clear HR hc
      go_wp2_with fail
      go_region
      go_wp2_with fail
      go_roundw
      case rel => exact ⟨k + 1, by omega, by go_num, HN⟩
      case measure => simp [intOf]; omega
    · obtain rfl : k = f.data.length := by omega
      have HR1 : Hid _ := HR.out
      clear HR
      go_wp2_with fail
      go_loopw [3] (fun i wr => ∃ k : Nat, k ≤ f.acl.length ∧ i = .int .i64 k ∧ Hid (Over F V wr)) (fun i _ => f.acl.length - (intOf i).toNat)
      case atStart => exact ⟨0, Nat.zero_le _, rfl, HR1⟩
      case round =>
        obtain ⟨k, hk, rfl, HR⟩ := hrel
        have cb := HR.out.kept.cell HC.out.2.1 HNF.out
        by_cases hlt : k < f.acl.length
        · have hc := HW.out.2.1 k hlt
          obtain ⟨u1, q1, q2⟩ := HR.out.turns.cell _ _ _ hc
          obtain ⟨y, rfl, y0, y1⟩ := frm_i8 q2 (HGa.out _ (List.getElem_mem hlt)).1 (HGa.out _ (List.getElem_mem hlt)).2
          have hfz : wr.frozen? ⟨ga, k * 3, none⟩ = false := (HR.out.froz _).trans (HFz.out.2.1 k hlt)
          have hyb := xor8 y
          clear q2
          have HN : Hid _ := (HR.out.set hc (.small _ _ hyb.1 hyb.2) HFF.out.2.1).drew
          clear HR hc
          go_wp2_with fail
          go_region
          go_wp2_with fail
          go_roundw
          case rel => exact ⟨k + 1, by omega, by go_num, HN⟩
          case measure => simp [intOf]; omega
        · obtain rfl : k = f.acl.length := by omega
          have HR2 : Hid _ := HR.out
          clear HR HR1
          go_wp2_with fail
          go_loopw [4] (fun i wr => ∃ k : Nat, k ≤ f.who.length ∧ i = .int .i64 k ∧ Hid (Over F V wr)) (fun i _ => f.who.length - (intOf i).toNat)
          case atStart => exact ⟨0, Nat.zero_le _, rfl, HR2⟩
          case round =>
            obtain ⟨k, hk, rfl, HR⟩ := hrel
            have cb := HR.out.kept.cell HC.out.2.2.1 HNF.out
            by_cases hlt : k < f.who.length
            · have hc := HW.out.2.2.1 k hlt
              obtain ⟨u1, q1, q2⟩ := HR.out.turns.cell _ _ _ hc
              have hfz : wr.frozen? ⟨gw, k * 2 + 1, none⟩ = false := (HR.out.froz _).trans (HFz.out.2.2.1 k hlt)
              clear q2
              have HN : Hid _ := HR.out.set hc (.text _ ⟨#[120]⟩ (by decide)) HFF.out.2.2.1
              clear HR hc
              go_wp2_with fail
              go_roundw
              case rel => exact ⟨k + 1, by omega, by go_num, HN⟩
              case measure => simp [intOf]; omega
            · obtain rfl : k = f.who.length := by omega
              have HR3 : Hid _ := HR.out
              clear HR HR2
              go_wp2_with fail
              go_loopw [5] (fun i wr => ∃ k : Nat, k ≤ n ∧ i = .int .i64 k ∧ Hid (Over F V wr)) (fun i _ => n - (intOf i).toNat)
              case atStart => exact ⟨0, Nat.zero_le _, rfl, HR3⟩
              case round =>
                obtain ⟨k, hk, rfl, HR⟩ := hrel
                have cb := HR.out.kept.cell HC.out.2.2.2 HNF.out
                by_cases hlt : k < n
                · obtain ⟨u0, hc⟩ := HW.out.2.2.2 k hlt
                  obtain ⟨u1, q1, q2⟩ := HR.out.turns.cell _ _ _ hc
                  have hfz : wr.frozen? ⟨go, k * 11 + 1, none⟩ = false := (HR.out.froz _).trans (HFz.out.2.2.2 k hlt)
                  clear q2
                  have HN : Hid _ := HR.out.set hc (.text _ ⟨#[47, 121]⟩ (by decide)) HFF.out.2.2.2
                  clear HR hc
                  go_wp2_with fail
                  go_roundw
                  case rel => exact ⟨k + 1, by omega, by go_num, HN⟩
                  case measure => simp [intOf]; omega
                · obtain rfl : k = n := by omega
                  have HE := HFIN.out _ HR.out
                  clear HR HR3
                  go_wp2_with fail
                  go_end0
                  exact ⟨rfl, HE⟩
end Go.Proofs.YtehgibgeghhloaaGreatDoor

/- WideRequests of lagoonref00: requests of their own with marks behind them, each by WideRequest's contract. -/
namespace Go.Proofs.YtehgibgeghhloaaGreatDoor
open Go.RowKit Go.Shelf
set_option maxRecDepth 8000

set_option maxHeartbeats 4000000 in
theorem wideRequests_of (n : Nat) (ops : Fin n → Rq) (oc : Fin n → List Value) (v : Value) (w : World) (ho : SeesR w v 11 (List.ofFn oc)) (hs : ∀ i, SeesRq w (oc i) (ops i)) (hn : n ≤ 20000) (hp : ∀ i, (ops i).parts ≤ 20000)
    (hI : ∀ (i : Fin n) (W : World), Below w.heap.size w W → Calls Tryz.prog 18 #[.agg (oc i).toArray] W fun e w' => ∃ ds, e = .returned (.agg ds.toArray) ∧ WidQ w' (fun k => W.heap.size ≤ k ∧ k < w'.heap.size) ds (ops i) ∧ Below W.heap.size W w') :
    Calls Tryz.prog 69 #[v] w fun e w' => ∃ oc' : Fin n → List Value, e = .returned (.slice (some ⟨w.heap.size, 0, none⟩) n (n + 64)) ∧ WidR w' w.heap.size (List.ofFn oc') ∧ (∀ i, WidQ w' (fun k => w.heap.size < k ∧ k < w'.heap.size) (oc' i) (ops i)) ∧ Below w.heap.size w w' := by
  obtain ⟨oa, occ, e3⟩ := seesR_shape ho
  rw [List.length_ofFn] at e3
  subst e3
  have HI : Hid _ := hI
  have HS : Hid (SeesR w (.slice oa n occ) 11 (List.ofFn oc) ∧ (∀ i, SeesRq w (oc i) (ops i)) ∧ ∀ i, (ops i).parts ≤ 20000) := ⟨ho, hs, hp⟩
  have hcap : n ≤ occ ∧ occ ≤ 9223372036854775807 := by
    obtain ⟨a1, c1, q1, q2, q3, _⟩ := ho
    simp at q1 q2
    unfold maxLen at q3
    omega
  obtain ⟨hcx, hcx'⟩ := hcap
  clear ho hs hI hp
  obtain ⟨i0, hi, hz0, hz1, hz2⟩ := info_parts Tryz.infoRq
  go_enter Tryz.func69, Tryz.ntmps69
  go_wp2_with (at_make; refine wpList_make_full _ rfl _ _ 31 rfl w.heap.size 33 i0 (.agg rqZ) 11 Tryz.underlying31 hi hz0 hz1 .i64 .i64 _ _ (n + 64) rfl rfl (by omega) (by omega) (by rw [hz2]; omega) (by unfold maxLen; omega) (Nat.le_refl _) ?_)
  intro w0 hown0 hgrow0
  have hbel0 : Below w.heap.size w w0 := (Below.refl _ _).grown hgrow0 (Nat.le_refl _) (fun k hk => by simp at hk)
  have HO0 : Hid (WrI w w0 w.heap.size n ops 0 ∧ w.heap.size < w0.heap.size) := ⟨⟨hbel0, _, fun _ => [], hown0, fun i hi => by omega, fun i _ hi => by omega, fun i _ hi => by omega⟩, (hown0.lt w.heap.size rfl).2⟩
  clear hown0 hgrow0 hbel0 hi hz0 hz1 hz2
  go_wp2_with fail
  go_loopw [4] (fun i wr => ∃ k : Nat, k ≤ n + 64 ∧ i = .int .i64 k ∧ Hid (WrI w wr w.heap.size n ops k ∧ w.heap.size < wr.heap.size)) (fun i _ => n + 64 - (intOf i).toNat)
  case atStart => exact ⟨0, Nat.zero_le _, rfl, HO0⟩
  case round =>
    clear HO0 w0
    obtain ⟨k, hk, rfl, HO⟩ := hrel
    by_cases hlt : k < n + 64
    · by_cases hlx : k < n
      · obtain ⟨a1', c1', q1, _, _, _, h3⟩ := HS.out.1
        simp at q1
        obtain ⟨rfl, rfl⟩ := q1
        rcases h3 with h3 | ⟨b, off, rfl, h3⟩
        · have : n = 0 := by simpa using congrArg List.length h3
          omega
        have hbel := HO.out.1.1
        have hat : ∀ j, j < 11 → wr.cell? ⟨b, off + k * 11 + j, none⟩ = some ((oc ⟨k, hlx⟩).getD j (.bool false)) := fun j hj => by
          have := cell_later (h3 k (by simpa using hlx) j hj) hbel (Nat.le_refl _)
          simpa using this
        obtain ⟨qx0, qx1, dx0, dx1, dx2, ax0, ax1, ax2, qx4, qx5, qx6, qx7, qx8, ex0, ex1, ex2, ox0, ox1, ox2, hcs⟩ := rq_forms (HS.out.2.1 ⟨k, hlx⟩)
        have HX := HI.out ⟨k, hlx⟩ wr hbel
        rw [hcs] at hat HX
        have g0 : wr.cell? ⟨b, off + k * 11, none⟩ = some (.int .i8 qx0) := hat 0 (by omega)
        have g1 : wr.cell? ⟨b, off + k * 11 + 1, none⟩ = some (.string qx1) := hat 1 (by omega)
        have g2 : wr.cell? ⟨b, off + k * 11 + 2, none⟩ = some (.slice dx0 dx1 dx2) := hat 2 (by omega)
        have g3 : wr.cell? ⟨b, off + k * 11 + 3, none⟩ = some (.slice ax0 ax1 ax2) := hat 3 (by omega)
        have g4 : wr.cell? ⟨b, off + k * 11 + 4, none⟩ = some (.int .i32 qx4) := hat 4 (by omega)
        have g5 : wr.cell? ⟨b, off + k * 11 + 5, none⟩ = some (.bool qx5) := hat 5 (by omega)
        have g6 : wr.cell? ⟨b, off + k * 11 + 6, none⟩ = some (.bool qx6) := hat 6 (by omega)
        have g7 : wr.cell? ⟨b, off + k * 11 + 7, none⟩ = some (.int .i64 qx7) := hat 7 (by omega)
        have g8 : wr.cell? ⟨b, off + k * 11 + 8, none⟩ = some (.int .i32 qx8) := hat 8 (by omega)
        have g9 : wr.cell? ⟨b, off + k * 11 + 9, none⟩ = some (.slice ex0 ex1 ex2) := hat 9 (by omega)
        have g10 : wr.cell? ⟨b, off + k * 11 + 10, none⟩ = some (.slice ox0 ox1 ox2) := hat 10 (by omega)
        clear hat hcs h3 hbel
        go_wp2_with fail
        refine HX.mono ?_
        rintro e w5 ⟨ds, rfl, hr5, b5⟩
        obtain ⟨qy0, qy1, dy0, dy1, dy2, ay0, ay1, ay2, qy4, qy5, qy6, qy7, qy8, ey0, ey1, ey2, oy0, oy1, oy2, rfl⟩ := rq_forms (hr5.sees (HS.out.2.2 ⟨k, hlx⟩))
        have HR : Hid _ := And.intro (WrI_step HO.out.2 HO.out.1 hlt b5 (fun _ => hr5) (fun h => absurd hlx (by omega))) (Nat.lt_of_lt_of_le HO.out.2 b5.size)
        obtain ⟨_, fl, E, hown0, _⟩ := HO.out.1
        have hown := ownsRow_kept hown0 (Below.kept b5) (fun q hq e => by cases hq; exact absurd (show wr.heap.size ≤ w.heap.size from e) (by have := HO.out.2; omega))
        have hl : fl.length = (n + 64) * 11 := hown.1
        obtain ⟨u0, hu0⟩ : ∃ u, w5.cell? ⟨w.heap.size, k * 11, none⟩ = some u := ⟨fl[k * 11]'(by omega), by rw [hown.cellAt _ (by omega), List.getElem?_eq_getElem (by omega)]⟩
        obtain ⟨u1, hu1⟩ : ∃ u, w5.cell? ⟨w.heap.size, k * 11 + 1, none⟩ = some u := ⟨fl[k * 11 + 1]'(by omega), by rw [hown.cellAt _ (by omega), List.getElem?_eq_getElem (by omega)]⟩
        obtain ⟨u2, hu2⟩ : ∃ u, w5.cell? ⟨w.heap.size, k * 11 + 2, none⟩ = some u := ⟨fl[k * 11 + 2]'(by omega), by rw [hown.cellAt _ (by omega), List.getElem?_eq_getElem (by omega)]⟩
        obtain ⟨u3, hu3⟩ : ∃ u, w5.cell? ⟨w.heap.size, k * 11 + 3, none⟩ = some u := ⟨fl[k * 11 + 3]'(by omega), by rw [hown.cellAt _ (by omega), List.getElem?_eq_getElem (by omega)]⟩
        obtain ⟨u4, hu4⟩ : ∃ u, w5.cell? ⟨w.heap.size, k * 11 + 4, none⟩ = some u := ⟨fl[k * 11 + 4]'(by omega), by rw [hown.cellAt _ (by omega), List.getElem?_eq_getElem (by omega)]⟩
        obtain ⟨u5, hu5⟩ : ∃ u, w5.cell? ⟨w.heap.size, k * 11 + 5, none⟩ = some u := ⟨fl[k * 11 + 5]'(by omega), by rw [hown.cellAt _ (by omega), List.getElem?_eq_getElem (by omega)]⟩
        obtain ⟨u6, hu6⟩ : ∃ u, w5.cell? ⟨w.heap.size, k * 11 + 6, none⟩ = some u := ⟨fl[k * 11 + 6]'(by omega), by rw [hown.cellAt _ (by omega), List.getElem?_eq_getElem (by omega)]⟩
        obtain ⟨u7, hu7⟩ : ∃ u, w5.cell? ⟨w.heap.size, k * 11 + 7, none⟩ = some u := ⟨fl[k * 11 + 7]'(by omega), by rw [hown.cellAt _ (by omega), List.getElem?_eq_getElem (by omega)]⟩
        obtain ⟨u8, hu8⟩ : ∃ u, w5.cell? ⟨w.heap.size, k * 11 + 8, none⟩ = some u := ⟨fl[k * 11 + 8]'(by omega), by rw [hown.cellAt _ (by omega), List.getElem?_eq_getElem (by omega)]⟩
        obtain ⟨u9, hu9⟩ : ∃ u, w5.cell? ⟨w.heap.size, k * 11 + 9, none⟩ = some u := ⟨fl[k * 11 + 9]'(by omega), by rw [hown.cellAt _ (by omega), List.getElem?_eq_getElem (by omega)]⟩
        obtain ⟨u10, hu10⟩ : ∃ u, w5.cell? ⟨w.heap.size, k * 11 + 10, none⟩ = some u := ⟨fl[k * 11 + 10]'(by omega), by rw [hown.cellAt _ (by omega), List.getElem?_eq_getElem (by omega)]⟩
        have hfz0 := hown.frozenAt (k * 11)
        have hfz1 := hown.frozenAt (k * 11 + 1)
        have hfz2 := hown.frozenAt (k * 11 + 2)
        have hfz3 := hown.frozenAt (k * 11 + 3)
        have hfz4 := hown.frozenAt (k * 11 + 4)
        have hfz5 := hown.frozenAt (k * 11 + 5)
        have hfz6 := hown.frozenAt (k * 11 + 6)
        have hfz7 := hown.frozenAt (k * 11 + 7)
        have hfz8 := hown.frozenAt (k * 11 + 8)
        have hfz9 := hown.frozenAt (k * 11 + 9)
        have hfz10 := hown.frozenAt (k * 11 + 10)
        clear hown hown0 hl HX hr5 b5 HO HS HI g0 g1 g2 g3 g4 g5 g6 g7 g8 g9 g10
        go_wp2_with fail
        go_roundw
        case rel => exact ⟨k + 1, by omega, by go_num, ⟨HR.out.1, by simpa [World.setCell] using HR.out.2⟩⟩
        case measure => simp [intOf]; omega
      · have HR : Hid _ := And.intro (WrI_step (w5 := wr) HO.out.2 HO.out.1 hlt (Below.refl _ _) (fun h => absurd h hlx) (fun _ => rfl)) HO.out.2
        obtain ⟨_, fl, E, hown, _⟩ := HO.out.1
        have hl : fl.length = (n + 64) * 11 := hown.1
        obtain ⟨u0, hu0⟩ : ∃ u, wr.cell? ⟨w.heap.size, k * 11, none⟩ = some u := ⟨fl[k * 11]'(by omega), by rw [hown.cellAt _ (by omega), List.getElem?_eq_getElem (by omega)]⟩
        obtain ⟨u1, hu1⟩ : ∃ u, wr.cell? ⟨w.heap.size, k * 11 + 1, none⟩ = some u := ⟨fl[k * 11 + 1]'(by omega), by rw [hown.cellAt _ (by omega), List.getElem?_eq_getElem (by omega)]⟩
        obtain ⟨u2, hu2⟩ : ∃ u, wr.cell? ⟨w.heap.size, k * 11 + 2, none⟩ = some u := ⟨fl[k * 11 + 2]'(by omega), by rw [hown.cellAt _ (by omega), List.getElem?_eq_getElem (by omega)]⟩
        obtain ⟨u3, hu3⟩ : ∃ u, wr.cell? ⟨w.heap.size, k * 11 + 3, none⟩ = some u := ⟨fl[k * 11 + 3]'(by omega), by rw [hown.cellAt _ (by omega), List.getElem?_eq_getElem (by omega)]⟩
        obtain ⟨u4, hu4⟩ : ∃ u, wr.cell? ⟨w.heap.size, k * 11 + 4, none⟩ = some u := ⟨fl[k * 11 + 4]'(by omega), by rw [hown.cellAt _ (by omega), List.getElem?_eq_getElem (by omega)]⟩
        obtain ⟨u5, hu5⟩ : ∃ u, wr.cell? ⟨w.heap.size, k * 11 + 5, none⟩ = some u := ⟨fl[k * 11 + 5]'(by omega), by rw [hown.cellAt _ (by omega), List.getElem?_eq_getElem (by omega)]⟩
        obtain ⟨u6, hu6⟩ : ∃ u, wr.cell? ⟨w.heap.size, k * 11 + 6, none⟩ = some u := ⟨fl[k * 11 + 6]'(by omega), by rw [hown.cellAt _ (by omega), List.getElem?_eq_getElem (by omega)]⟩
        obtain ⟨u7, hu7⟩ : ∃ u, wr.cell? ⟨w.heap.size, k * 11 + 7, none⟩ = some u := ⟨fl[k * 11 + 7]'(by omega), by rw [hown.cellAt _ (by omega), List.getElem?_eq_getElem (by omega)]⟩
        obtain ⟨u8, hu8⟩ : ∃ u, wr.cell? ⟨w.heap.size, k * 11 + 8, none⟩ = some u := ⟨fl[k * 11 + 8]'(by omega), by rw [hown.cellAt _ (by omega), List.getElem?_eq_getElem (by omega)]⟩
        obtain ⟨u9, hu9⟩ : ∃ u, wr.cell? ⟨w.heap.size, k * 11 + 9, none⟩ = some u := ⟨fl[k * 11 + 9]'(by omega), by rw [hown.cellAt _ (by omega), List.getElem?_eq_getElem (by omega)]⟩
        obtain ⟨u10, hu10⟩ : ∃ u, wr.cell? ⟨w.heap.size, k * 11 + 10, none⟩ = some u := ⟨fl[k * 11 + 10]'(by omega), by rw [hown.cellAt _ (by omega), List.getElem?_eq_getElem (by omega)]⟩
        have hfz0 := hown.frozenAt (k * 11)
        have hfz1 := hown.frozenAt (k * 11 + 1)
        have hfz2 := hown.frozenAt (k * 11 + 2)
        have hfz3 := hown.frozenAt (k * 11 + 3)
        have hfz4 := hown.frozenAt (k * 11 + 4)
        have hfz5 := hown.frozenAt (k * 11 + 5)
        have hfz6 := hown.frozenAt (k * 11 + 6)
        have hfz7 := hown.frozenAt (k * 11 + 7)
        have hfz8 := hown.frozenAt (k * 11 + 8)
        have hfz9 := hown.frozenAt (k * 11 + 9)
        have hfz10 := hown.frozenAt (k * 11 + 10)
        clear hown hl HO HS HI
        go_wp2_with fail
        go_roundw
        case rel => exact ⟨k + 1, by omega, by go_num, ⟨HR.out.1, by simpa [World.setCell] using HR.out.2⟩⟩
        case measure => simp [intOf]; omega
    · obtain rfl : k = n + 64 := by omega
      clear HS HI
      go_wp2_with fail
      go_ret
      obtain ⟨⟨hbel, fl, E, h1, h2, h3, h4⟩, hg⟩ := HO.out
      refine ⟨fun i => E i.1, rfl, ⟨fl, ?_, fun i hi j hj => ?_, fun i hi hi' j hj => ?_⟩, fun i => h3 i.1 i.2 (by omega), hbel⟩
      · rw [List.length_ofFn]; exact h1
      · rw [List.length_ofFn] at hi
        rw [List.getElem_ofFn]
        exact h2 i (by omega) (by omega) j hj
      · rw [List.length_ofFn] at hi hi'
        rw [← h4 i hi hi']
        exact h2 i hi' hi' j hj

end Go.Proofs.YtehgibgeghhloaaGreatDoor
