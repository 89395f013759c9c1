/- turned of the statements of layer 4: a request's lists are written over where they lie, each part by one of its form. -/
import Derived.Test.YtoeialngbbfoeaaGreatDoorWdGJ
import Derived.Test.YtoeialngbbfoeaaGreatDoorShellJ
import Derived.RegionTactic
import Derived.ChangeAlike
namespace Go.Proofs.YtoeialngbbfoeaaGreatDoor
open Go.RowKit
set_option maxRecDepth 8000

/-- Written over: of the same form, in blocks of F alone. -/
structure Over (F : Nat → Prop) (w w' : World) : Prop where
  turns : Turns w w'
  kept : Kept w w' F
  froz : ∀ p, w'.frozen? p = w.frozen? p

theorem Over.refl (F : Nat → Prop) (w : World) : Over F w w := ⟨Turns.refl w, Kept.refl w F, fun _ => rfl⟩

theorem Over.set {F : Nat → Prop} {w wr : World} (h : Over F w wr) {g c : Nat} {u v : Value} (hc : w.cell? ⟨g, c, none⟩ = some u) (hf : FrmV u v) (hF : F g) : Over F w (wr.setCell ⟨g, c, none⟩ v) :=
  ⟨h.turns.set hc hf, h.kept.setCell ⟨g, c, none⟩ v (fun _ => hF), fun p => (World.frozen?_setCell _ _ _ _).trans (h.froz p)⟩

theorem Over.drew {F : Nat → Prop} {w wr : World} (h : Over F w wr) : Over F w wr.drew :=
  ⟨⟨fun g c u hc => h.turns.cell g c u hc⟩, ⟨h.kept.os, h.kept.tape, h.kept.output, h.kept.size, h.kept.block⟩, h.froz⟩

theorem wrap_i8 (n : Int) : IntKind.i8.wrap n = (n + 128) % 256 - 128 := by
  simp [IntKind.wrap, IntKind.bits, IntKind.signed]
  omega
theorem xor8 (x : Int) : -128 ≤ bits .xor .i8 x 1 ∧ bits .xor .i8 x 1 ≤ 127 := by
  unfold bits
  simp only [wrap_i8]
  omega

theorem WidQ.rqIn {w : World} {F : Nat → Prop} {cs : List Value} {r : Rq} (h : WidQ w F cs r) (hp : r.parts ≤ 20000) : RqIn w F cs r := by
  induction h with
  | mk f n ops gd ga gw go oc hd ha hw ho fd fa fw fo _ ih =>
    rw [Rq.parts_eq] at hp
    have hpn := partsTo_le ops n (Nat.le_refl _)
    have hfp : f.parts = 1 + f.data.length + f.acl.length + f.who.length := rfl
    have ho' := ho.sees (by rw [List.length_ofFn]; omega)
    rw [List.length_ofFn] at ho'
    exact .mk f n ops _ _ _ _ oc (hd.sees (by omega)) (ha.sees (by omega)) (hw.sees (by omega)) ho' (fun k e => by cases e; exact fd) (fun k e => by cases e; exact fa) (fun k e => by cases e; exact fw) (fun k e => by cases e; exact fo) (fun i => ih i (by have := part_le ops i; omega))

set_option maxHeartbeats 4000000 in
theorem turned_any (F : Nat → Prop) (f : RqF) (n : Nat) (ops : Fin n → Rq) (cs : List Value) (w : World) (h : WidQ w F cs (.mk f n ops)) (hp : (Rq.mk f n ops).parts ≤ 20000) (hg : f.good) (hF : ∀ k, F k → k < w.heap.size) :
    Calls Tryz.prog 13 #[.agg cs.toArray] w fun e w' => e = .returned (.tuple #[]) ∧ Turns w w' ∧ Kept w w' F := by
  obtain ⟨gd, ga, gw, go, oc, rfl, hd, ha, hw, ho, fd, fa, fw, fo, hs⟩ := h.inv
  rw [Rq.parts_eq] at hp
  have hpn := partsTo_le ops n (Nat.le_refl _)
  have hfp : f.parts = 1 + f.data.length + f.acl.length + f.who.length := rfl
  simp only [rqCells]
  obtain ⟨V, eV⟩ : ∃ V, V = w.alloc (.cells #[.int .i8 f.kind, .string f.path, .slice (some ⟨gd, 0, none⟩) f.data.length (f.data.length + 64), .slice (some ⟨ga, 0, none⟩) f.acl.length (f.acl.length + 64), .int .i32 f.ver, .bool f.eph, .bool f.seq, .int .i64 f.ses, .int .i32 f.tmo, .slice (some ⟨gw, 0, none⟩) f.who.length (f.who.length + 64), .slice (some ⟨go, 0, none⟩) n (n + 64)] 33) := ⟨_, rfl⟩
  have HV : Hid (Below w.heap.size w V) := by subst eV; exact one_alloc _ _
  have HC : Hid (V.cell? ⟨w.heap.size, 2, none⟩ = some (.slice (some ⟨gd, 0, none⟩) f.data.length (f.data.length + 64)) ∧ V.cell? ⟨w.heap.size, 3, none⟩ = some (.slice (some ⟨ga, 0, none⟩) f.acl.length (f.acl.length + 64)) ∧ V.cell? ⟨w.heap.size, 9, none⟩ = some (.slice (some ⟨gw, 0, none⟩) f.who.length (f.who.length + 64)) ∧ V.cell? ⟨w.heap.size, 10, none⟩ = some (.slice (some ⟨go, 0, none⟩) n (n + 64))) := by
    subst eV
    refine ⟨?_, ?_, ?_, ?_⟩ <;> (rw [cell_of_row _ _ _ _ _ _ (heap_alloc_new _ _)]; rfl)
  have HNF : Hid (¬ F w.heap.size) := fun e => by have := hF _ e; omega
  have hdV := hd.kept (Below.kept HV.out) (fun e => by have := hF _ fd; omega)
  have haV := ha.kept (Below.kept HV.out) (fun e => by have := hF _ fa; omega)
  have hwV := hw.kept (Below.kept HV.out) (fun e => by have := hF _ fw; omega)
  have hoV := ho.kept (Below.kept HV.out) (fun e => by have := hF _ fo; omega)
  have HW : Hid ((∀ k, k < f.data.length → V.cell? ⟨gd, k, none⟩ = some (.int .u8 (f.data.getD k 0))) ∧ (∀ k (hk : k < f.acl.length), V.cell? ⟨ga, k * 3, none⟩ = some (.int .i8 f.acl[k].perms)) ∧ (∀ k (hk : k < f.who.length), V.cell? ⟨gw, k * 2 + 1, none⟩ = some (.string f.who[k].name)) ∧ ∀ k, k < n → ∃ s, V.cell? ⟨go, k * 11 + 1, none⟩ = some (.string s)) := by
    obtain ⟨ce, ae, be⟩ := haV
    obtain ⟨ci, ai, bi⟩ := hwV
    refine ⟨fun k hk => ?_, fun k hk => ?_, fun k hk => ?_, fun k hk => ?_⟩
    · have := owns_cell hdV k (by rw [wide_len]; omega)
      rw [wide_nth f.data k (by omega), if_pos hk] at this
      exact this
    · rw [ae.cellAt _ (by omega), (be k (by omega)).1]
      simp [weE, hk]
    · rw [ai.cellAt _ (by omega), (bi k (by omega)).2]
      simp [weI, hk]
    · have h1 := hoV.cell k (by rw [List.length_ofFn]; exact hk) 1 (by omega)
      have h2 := (hs ⟨k, hk⟩).rqIn (by have := part_le ops ⟨k, hk⟩; omega)
      obtain ⟨q0, q1, d0, d1, d2, a0, a1, a2, q4, q5, q6, q7, q8, e0, e1, e2, o0, o1, o2, e⟩ := rq_forms h2.sees
      rw [List.getElem_ofFn] at h1
      rw [e] at h1
      exact ⟨q1, h1⟩
  have HFz : Hid ((∀ k, k < f.data.length → V.frozen? ⟨gd, k, none⟩ = false) ∧ (∀ k, k < f.acl.length → V.frozen? ⟨ga, k * 3, none⟩ = false) ∧ (∀ k, k < f.who.length → V.frozen? ⟨gw, k * 2 + 1, none⟩ = false) ∧ ∀ k, k < n → V.frozen? ⟨go, k * 11 + 1, none⟩ = false) := by
    obtain ⟨ce, ae, _⟩ := haV
    obtain ⟨ci, ai, _⟩ := hwV
    obtain ⟨cr, ar, _⟩ := hoV
    exact ⟨fun k _ => hdV.frozenAt k, fun k _ => ae.frozenAt _, fun k _ => ai.frozenAt _, fun k _ => ar.frozenAt _⟩
  have HFF : Hid (F gd ∧ F ga ∧ F gw ∧ F go) := ⟨fd, fa, fw, fo⟩
  have HBy : Hid (Byts f.data) := hg.byts
  have HGa : Hid (∀ x ∈ f.acl, -128 ≤ x.perms ∧ x.perms ≤ 127) := fun x hx => ⟨(hg.ae x hx).1, (hg.ae x hx).2.1⟩
  have HFIN : Hid (∀ W, Over F V W → Turns w W ∧ Kept w W F) := fun W hW => by
    refine ⟨⟨fun g c u hc => hW.turns.cell g c u (cell_later hc HV.out (Nat.le_refl _))⟩, (Below.kept HV.out |>.mono (S' := F) (fun k hk h => by omega)).trans hW.kept (fun _ _ h => h)⟩
  have HE : Hid _ := eV
  clear eV hd ha hw ho fd fa fw fo hs hdV haV hwV hoV hg hF h HV
  go_enter Tryz.func13, Tryz.ntmps13
  go_wp2_with fail
  rw [← HE.out]
  clear HE
  go_loopw [2] (fun i wr => ∃ k : Nat, k ≤ f.data.length ∧ i = .int .i64 k ∧ Hid (Over F V wr)) (fun i _ => f.data.length - (intOf i).toNat)
  case atStart => exact ⟨0, Nat.zero_le _, rfl, Over.refl _ _⟩
  case round =>
    obtain ⟨k, hk, rfl, HR⟩ := hrel
    have cb := HR.out.kept.cell HC.out.1 HNF.out
    by_cases hlt : k < f.data.length
    · have hc := HW.out.1 k hlt
      obtain ⟨u1, q1, q2⟩ := HR.out.turns.cell _ _ _ hc
      have hbx := HBy.out.nth k
      obtain ⟨y, rfl, y0, y1⟩ := frm_u8 q2 hbx.1 hbx.2
      have hfz : wr.frozen? ⟨gd, k, none⟩ = false := (HR.out.froz _).trans (HFz.out.1 k hlt)
      have hyb := xor_byte y 3 y0 y1 (by omega) (by omega)
      clear q2 hbx
      have HN : Hid _ := (HR.out.set hc (.byte _ _ hyb.1 hyb.2) HFF.out.1).drew
      clear HR hc
      go_wp2_with fail
      go_region
      go_wp2_with fail
      go_roundw
      case rel => exact ⟨k + 1, by omega, by go_num, HN⟩
      case measure => simp [intOf]; omega
    · obtain rfl : k = f.data.length := by omega
      have HR1 : Hid _ := HR.out
      clear HR
      go_wp2_with fail
      go_loopw [3] (fun i wr => ∃ k : Nat, k ≤ f.acl.length ∧ i = .int .i64 k ∧ Hid (Over F V wr)) (fun i _ => f.acl.length - (intOf i).toNat)
      case atStart => exact ⟨0, Nat.zero_le _, rfl, HR1⟩
      case round =>
        obtain ⟨k, hk, rfl, HR⟩ := hrel
        have cb := HR.out.kept.cell HC.out.2.1 HNF.out
        by_cases hlt : k < f.acl.length
        · have hc := HW.out.2.1 k hlt
          obtain ⟨u1, q1, q2⟩ := HR.out.turns.cell _ _ _ hc
          obtain ⟨y, rfl, y0, y1⟩ := frm_i8 q2 (HGa.out _ (List.getElem_mem hlt)).1 (HGa.out _ (List.getElem_mem hlt)).2
          have hfz : wr.frozen? ⟨ga, k * 3, none⟩ = false := (HR.out.froz _).trans (HFz.out.2.1 k hlt)
          have hyb := xor8 y
          clear q2
          have HN : Hid _ := (HR.out.set hc (.small _ _ hyb.1 hyb.2) HFF.out.2.1).drew
          clear HR hc
          go_wp2_with fail
          go_region
          go_wp2_with fail
          go_roundw
          case rel => exact ⟨k + 1, by omega, by go_num, HN⟩
          case measure => simp [intOf]; omega
        · obtain rfl : k = f.acl.length := by omega
          have HR2 : Hid _ := HR.out
          clear HR HR1
          go_wp2_with fail
          go_loopw [4] (fun i wr => ∃ k : Nat, k ≤ f.who.length ∧ i = .int .i64 k ∧ Hid (Over F V wr)) (fun i _ => f.who.length - (intOf i).toNat)
          case atStart => exact ⟨0, Nat.zero_le _, rfl, HR2⟩
          case round =>
            obtain ⟨k, hk, rfl, HR⟩ := hrel
            have cb := HR.out.kept.cell HC.out.2.2.1 HNF.out
            by_cases hlt : k < f.who.length
            · have hc := HW.out.2.2.1 k hlt
              obtain ⟨u1, q1, q2⟩ := HR.out.turns.cell _ _ _ hc
              have hfz : wr.frozen? ⟨gw, k * 2 + 1, none⟩ = false := (HR.out.froz _).trans (HFz.out.2.2.1 k hlt)
              clear q2
              have HN : Hid _ := HR.out.set hc (.text _ ⟨#[120]⟩ (by decide)) HFF.out.2.2.1
              clear HR hc
              go_wp2_with fail
              go_roundw
              case rel => exact ⟨k + 1, by omega, by go_num, HN⟩
              case measure => simp [intOf]; omega
            · obtain rfl : k = f.who.length := by omega
              have HR3 : Hid _ := HR.out
              clear HR HR2
              go_wp2_with fail
              go_loopw [5] (fun i wr => ∃ k : Nat, k ≤ n ∧ i = .int .i64 k ∧ Hid (Over F V wr)) (fun i _ => n - (intOf i).toNat)
              case atStart => exact ⟨0, Nat.zero_le _, rfl, HR3⟩
              case round =>
                obtain ⟨k, hk, rfl, HR⟩ := hrel
                have cb := HR.out.kept.cell HC.out.2.2.2 HNF.out
                by_cases hlt : k < n
                · obtain ⟨u0, hc⟩ := HW.out.2.2.2 k hlt
                  obtain ⟨u1, q1, q2⟩ := HR.out.turns.cell _ _ _ hc
                  have hfz : wr.frozen? ⟨go, k * 11 + 1, none⟩ = false := (HR.out.froz _).trans (HFz.out.2.2.2 k hlt)
                  clear q2
                  have HN : Hid _ := HR.out.set hc (.text _ ⟨#[47, 121]⟩ (by decide)) HFF.out.2.2.2
                  clear HR hc
                  go_wp2_with fail
                  go_roundw
                  case rel => exact ⟨k + 1, by omega, by go_num, HN⟩
                  case measure => simp [intOf]; omega
                · obtain rfl : k = n := by omega
                  have HE := HFIN.out _ HR.out
                  clear HR HR3
                  go_wp2_with fail
                  go_end0
                  exact ⟨rfl, HE⟩
end Go.Proofs.YtoeialngbbfoeaaGreatDoor
