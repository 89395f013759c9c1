/- request of the document's layer 4: a request's bytes, letter by letter. -/
import Derived.Test.YtobnggkgpenmfaaGreatDoorWeCJ
namespace Go.Proofs.YtobnggkgpenmfaaGreatDoor
open Go.RowKit
set_option maxRecDepth 8000

/-- What a call lays behind others. -/
abbrev BehCall (f : Nat) (args : Array Value) (B : Nat) (w : World) (v : Value) (zs : List Int) : Prop := Calls Tryz.prog f args w fun e w' => ∃ v', e = .returned v' ∧ Beh B w v zs w' v'

set_option maxHeartbeats 8000000 in
theorem refReq_gen (inner : Bool) (kind ver ses tmo : Int) (path : ByteArray) (data : List Int) (acl : List EnD) (eph seq : Bool) (who : List IdD) (n : Nat) (more : List Int) (oc : Fin n → List Value) (d0 a0 e0 o0 : Option Addr) (d1 d2 a2 e2 o2 B : Nat) (v : Value) (xs : List Int) (w : World)
    (hg : RqF.good ⟨kind, path, data, acl, ver, eph, seq, ses, tmo, who⟩) (w00 : World) (hb0 : Below B w00 w) (hB0 : w00.heap.size ≤ B) (hbd : bdOk ⟨kind, path, data, acl, ver, eph, seq, ses, tmo, who⟩ = true) (hd : Sees w00 (.slice d0 d1 d2) data) (ha : SeesR w00 (.slice a0 acl.length a2) 3 (acl.map EnD.cells)) (hw : SeesR w00 (.slice e0 who.length e2) 2 (who.map IdD.cells)) (ho : SeesR w00 (.slice o0 n o2) 11 (List.ofFn oc)) (hol : ∀ i, (oc i).length = 11) (hn : kind = 6 → n ≤ 8)
    (hv : Owns w B v xs) (hB : B ≤ w.heap.size) (hx : xs.length ≤ 10000000) (enc : Nat → List Int) (he0 : enc 0 = be4 n) (hmore : enc n = more) (hel : ∀ k, k ≤ n → (enc k).length ≤ 1000000)
    (hO : kind = 6 → ∀ (k : Nat) (hk : k < n) (W : World) (u : Value) (ys : List Int), Below B w W → B ≤ W.heap.size → Owns W B u (ys ++ enc k) → ys.length ≤ xs.length + 7000000 → BehCall 53 #[u, .agg (oc ⟨k, hk⟩).toArray, .bool true] B W u (ys ++ enc (k + 1))) :
    BehCall 53 #[v, .agg #[.int .i8 kind, .string path, .slice d0 d1 d2, .slice a0 acl.length a2, .int .i32 ver, .bool eph, .bool seq, .int .i64 ses, .int .i32 tmo, .slice e0 who.length e2, .slice o0 n o2], .bool inner] B w v (xs ++ ([kind % 256] ++ encTo inner ⟨kind, path, data, acl, ver, eph, seq, ses, tmo, who⟩ more (lt4 kind) (lt4 kind).size)) := by
  obtain ⟨Z, hZ⟩ : ∃ Z, Z = xs ++ ([kind % 256] ++ encTo inner ⟨kind, path, data, acl, ver, eph, seq, ses, tmo, who⟩ more (lt4 kind) (lt4 kind).size) := ⟨_, rfl⟩
  rw [← hZ]
  have HZ : Hid _ := hZ
  clear hZ
  have HBD : Hid _ := bdOk_inv hbd
  simp only at HBD
  obtain ⟨V, eV⟩ : ∃ V, V = w.alloc (.cells #[.int .i8 kind, .string path, .slice d0 d1 d2, .slice a0 acl.length a2, .int .i32 ver, .bool eph, .bool seq, .int .i64 ses, .int .i32 tmo, .slice e0 who.length e2, .slice o0 n o2] 47) := ⟨_, rfl⟩
  have HV : Hid (Below w.heap.size w V) := by subst eV; exact one_alloc _ _
  have HC : Hid (V.cell? ⟨w.heap.size, 0, none⟩ = some (.int .i8 kind) ∧ V.cell? ⟨w.heap.size, 1, none⟩ = some (.string path) ∧ V.cell? ⟨w.heap.size, 2, none⟩ = some (.slice d0 d1 d2) ∧ V.cell? ⟨w.heap.size, 3, none⟩ = some (.slice a0 acl.length a2) ∧ V.cell? ⟨w.heap.size, 4, none⟩ = some (.int .i32 ver) ∧ V.cell? ⟨w.heap.size, 5, none⟩ = some (.bool eph) ∧ V.cell? ⟨w.heap.size, 6, none⟩ = some (.bool seq) ∧ V.cell? ⟨w.heap.size, 7, none⟩ = some (.int .i64 ses) ∧ V.cell? ⟨w.heap.size, 8, none⟩ = some (.int .i32 tmo) ∧ V.cell? ⟨w.heap.size, 9, none⟩ = some (.slice e0 who.length e2) ∧ V.cell? ⟨w.heap.size, 10, none⟩ = some (.slice o0 n o2)) := by
    subst eV
    refine ⟨?_, ?_, ?_, ?_, ?_, ?_, ?_, ?_, ?_, ?_, ?_⟩ <;> (rw [cell_of_row _ _ _ _ _ _ (heap_alloc_new _ _)]; rfl)
  have HN : Hid (v.ownBlock ≠ some w.heap.size) := fun e => by have := (hv.lt _ e).2; omega
  have HL : Hid (bdOk ⟨kind, path, data, acl, ver, eph, seq, ses, tmo, who⟩ = true ∧ Sees w00 (.slice d0 d1 d2) data ∧ SeesR w00 (.slice a0 acl.length a2) 3 (acl.map EnD.cells) ∧ SeesR w00 (.slice e0 who.length e2) 2 (who.map IdD.cells) ∧ SeesR w00 (.slice o0 n o2) 11 (List.ofFn oc)) := ⟨hbd, hd, ha, hw, ho⟩
  have HE : Hid _ := eV
  have HB0 : Hid (Beh B w v xs V v) := (Beh.refl hv hB).later HV.out
  have HBV : Hid (Beh B V v xs V v) := Beh.refl HB0.out.own HB0.out.base
  have HO : Hid _ := hO
  have HEn : Hid (enc 0 = be4 n ∧ enc n = more ∧ ∀ k, k ≤ n → (enc k).length ≤ 1000000) := ⟨he0, hmore, hel⟩
  have HOL : Hid _ := hol
  have HG : Hid _ := hg
  have HLT : Hid _ := lt4_letters kind
  have HSZ : Hid ((lt4 kind).size ≤ 6) := by
    show (lt4 kind).size ≤ 6
    unfold lt4
    repeat' split
    all_goals decide
  have HFIN : Hid (∀ zs wr v', Beh B V v zs wr v' → Beh B w v zs wr v') := fun zs wr v' h => HB0.out.trans h
  have HKW : Hid (∀ zs wr v', Beh B V v zs wr v' → Below B w wr) := fun zs wr v' h => (HV.out.mono hB).trans (h.below HB0.out.own HB0.out.base)
  have HWB : Hid (∀ zs wr v', Beh B V v zs wr v' → Below B w00 wr) := fun zs wr v' h => hb0.trans (HKW.out zs wr v' h)
  have HTL : Hid (∀ (s : ByteArray) (k : Nat), k < s.size → s.size ≤ 6 → 1 + (encTo inner ⟨kind, path, data, acl, ver, eph, seq, ses, tmo, who⟩ more s k).length ≤ 7000000) := fun s k h1 h2 => by have h3 := encTo_len inner ⟨kind, path, data, acl, ver, eph, seq, ses, tmo, who⟩ more s 1000000 (by omega) HL.out.1 (by rw [← HEn.out.2.1]; exact HEn.out.2.2 n (Nat.le_refl _)) k (by omega); omega
  have hlet := letters_any kind V
  have hi8 := refInt8_any kind
  clear eV hv hbd hd ha hw ho hb0 hO he0 hmore hel hol hg hB
  go_enter Tryz.func53, Tryz.ntmps53
  go_wp2_with fail
  rw [← HE.out]
  clear HE
  refine hlet.mono ?_
  clear hlet
  rintro _ w0 ⟨rfl, rfl⟩
  obtain ⟨s, hs⟩ : ∃ s, s = lt4 kind := ⟨_, rfl⟩
  rw [← hs] at HLT HSZ HZ ⊢
  clear hs
  have c0 := HC.out.1
  go_wp2_with fail
  clear c0
  refine (hi8 w0 HG.out.k0 HG.out.k1).mono ?_
  clear hi8
  rintro e w1 ⟨u1, rfl, hu1, hb1⟩
  have HX1 := behind_new HBV.out hb1 hu1 (by simp; omega)
  clear hu1 hb1
  go_wp2_with fail
  refine HX1.mono ?_
  clear HX1
  rintro e w2 ⟨v2, rfl, hv2, _⟩
  have HR0 : Hid (Beh B w0 v (xs ++ ([kind % 256] ++ encTo inner ⟨kind, path, data, acl, ver, eph, seq, ses, tmo, who⟩ more s 0)) w2 v2) := by show Beh _ _ _ _ _ _; simpa [encTo] using hv2
  clear hv2
  go_wp2_with fail
  go_loopw [0, 8] (fun b i wr => ∃ k : Nat, k ≤ s.size ∧ i = .int .i64 k ∧ Hid (Beh B w0 v (xs ++ ([kind % 256] ++ encTo inner ⟨kind, path, data, acl, ver, eph, seq, ses, tmo, who⟩ more s k)) wr b)) (fun _ i _ => s.size - (intOf i).toNat)
  case atStart => exact ⟨0, Nat.zero_le _, rfl, HR0⟩
  case round =>
    clear HR0 HBV HB0 HV
    obtain ⟨k, hk, rfl, HR⟩ := hrel
    by_cases hlt : k < s.size
    · have HNX : Hid _ := encTo_next inner ⟨kind, path, data, acl, ver, eph, seq, ses, tmo, who⟩ more s k hlt
      have hls := HLT.out k hlt
      have HZL : Hid (1 + (encTo inner ⟨kind, path, data, acl, ver, eph, seq, ses, tmo, who⟩ more s k).length ≤ 7000000) := HTL.out s k hlt HSZ.out
      have hlen := HSZ.out
      generalize hzs : xs ++ ([kind % 256] ++ encTo inner ⟨kind, path, data, acl, ver, eph, seq, ses, tmo, who⟩ more s k) = zs at *
      have hl2 : zs.length ≤ xs.length + 7000000 := by rw [← hzs]; have := HZL.out; simp; omega
      have HZ2 : Hid _ := hl2
      have hl1 : zs.length ≤ 100000000 := by omega
      clear hl2
      have HZL1 : Hid (zs.length ≤ 100000000) := hl1
      clear HZL
      have HZL := HZL1
      clear HZL1
      rcases hls with hls | hls | hls | hls | hls | hls | hls | hls | hls
      · as_aux_lemma =>
        have hsk : ((s[k]).toNat : Int) = 112 := by omega
        have HT : Hid (xs ++ ([kind % 256] ++ encTo inner ⟨kind, path, data, acl, ver, eph, seq, ses, tmo, who⟩ more s (k + 1)) = zs ++ txtB path) := by show _ = _; rw [HNX.out, hsk, ← hzs]; simp [encLet]
        clear HNX hls hl1
        have c1 := HR.out.kept.cell HC.out.2.1 HN.out
        go_wp2_with fail
        refine (refText_any path _ (by have := HBD.out.1; omega)).mono ?_
        rintro e w3a ⟨u3a, rfl, hu, hb⟩
        have HX := behind_new HR.out hb hu (by have h1 := HZL.out; have h2 := HBD.out; have h3 := txt_len path; simp [be4]; omega)
        clear hu hb c1
        go_wp2_with fail
        refine HX.mono ?_
        clear HX
        rintro e w3b ⟨v3b, rfl, hv, _⟩
        have HR4 : Hid (Beh B w0 v (xs ++ ([kind % 256] ++ encTo inner ⟨kind, path, data, acl, ver, eph, seq, ses, tmo, who⟩ more s (k + 1))) w3b v3b) := by show Beh _ _ _ _ _ _; rw [HT.out]; exact hv
        clear hv HR
        go_wp2_with fail
        go_roundw
        case rel => exact ⟨k + 1, by omega, by go_num, HR4⟩
        case measure => simp [intOf]; omega
      · as_aux_lemma =>
        have hsk : ((s[k]).toNat : Int) = 100 := by omega
        have HT : Hid (xs ++ ([kind % 256] ++ encTo inner ⟨kind, path, data, acl, ver, eph, seq, ses, tmo, who⟩ more s (k + 1)) = zs ++ (be4 data.length ++ data)) := by show _ = _; rw [HNX.out, hsk, ← hzs]; simp [encLet]
        clear HNX hls hl1
        have hsd : Sees wr (.slice d0 d1 d2) data := HL.out.2.1.below (HWB.out _ _ _ HR.out) hB0
        have c2 := HR.out.kept.cell HC.out.2.2.1 HN.out
        go_wp2_with fail
        refine (refBuffer_any _ data _ hsd (by have := HBD.out.2.1; omega)).mono ?_
        rintro e w3a ⟨u3a, rfl, hu, hb⟩
        have HX := behind_new HR.out hb hu (by have h1 := HZL.out; have h2 := HBD.out; simp [be4]; omega)
        clear hu hb c2
        go_wp2_with fail
        refine HX.mono ?_
        clear HX
        rintro e w3b ⟨v3b, rfl, hv, _⟩
        have HR4 : Hid (Beh B w0 v (xs ++ ([kind % 256] ++ encTo inner ⟨kind, path, data, acl, ver, eph, seq, ses, tmo, who⟩ more s (k + 1))) w3b v3b) := by show Beh _ _ _ _ _ _; rw [HT.out]; exact hv
        clear hv HR hsd
        go_wp2_with fail
        go_roundw
        case rel => exact ⟨k + 1, by omega, by go_num, HR4⟩
        case measure => simp [intOf]; omega
      · as_aux_lemma =>
        have hsk : ((s[k]).toNat : Int) = 97 := by omega
        have HT : Hid (xs ++ ([kind % 256] ++ encTo inner ⟨kind, path, data, acl, ver, eph, seq, ses, tmo, who⟩ more s (k + 1)) = zs ++ (be4 acl.length ++ acB acl)) := by show _ = _; rw [HNX.out, hsk, ← hzs]; simp [encLet]
        clear HNX hls hl1
        have hal := HBD.out.2.2.1
        have HUP : Hid (up32 (acl.length : Int) = acl.length) := by show _ = _; unfold up32; omega
        have HAC : Hid (∀ j (hj : j < acl.length), ∃ b off, a0 = some ⟨b, off, none⟩ ∧ w00.cell? ⟨b, off + j * 3, none⟩ = some (.int .i8 acl[j].1) ∧ w00.cell? ⟨b, off + j * 3 + 1, none⟩ = some (.string acl[j].2.1) ∧ w00.cell? ⟨b, off + j * 3 + 2, none⟩ = some (.string acl[j].2.2)) := by
          obtain ⟨ao, cap, e, _, HC'⟩ := cellsEW HL.out.2.2.1
          cases e
          exact HC'
        have c3 := HR.out.kept.cell HC.out.2.2.2.1 HN.out
        go_wp2_with fail
        refine (refInt32_any acl.length _ (by omega) (by omega)).mono ?_
        rintro e w3a ⟨u3a, rfl, hu, hb⟩
        have HX := behind_new HR.out hb hu (by have h1 := HZL.out; have h2 := HBD.out; simp [be4]; omega)
        clear hu hb c3
        go_wp2_with fail
        refine HX.mono ?_
        clear HX
        rintro e w3b ⟨v3b, rfl, hv, _⟩
        have HR3 : Hid (Beh B w0 v (zs ++ be4 acl.length) w3b v3b) := by rw [HUP.out] at hv; exact hv
        clear hv HR
        obtain ⟨wo, hwo⟩ : ∃ wo, wo = wr := ⟨_, rfl⟩
        subst hwo
        go_wp2_with fail
        go_loopw [0, 9] (fun b i wr => ∃ j : Nat, j ≤ acl.length ∧ i = .int .i64 j ∧ Hid (Beh B w0 v (zs ++ (be4 acl.length ++ acB (acl.take j))) wr b)) (fun _ i _ => acl.length - (intOf i).toNat)
        case atStart => exact ⟨0, Nat.zero_le _, rfl, by show Beh _ _ _ _ _ _; simpa [acB] using HR3.out⟩
        case round =>
          clear HR3
          obtain ⟨j, hj, rfl, HRj⟩ := hrel
          have cb := HRj.out.kept.cell HC.out.2.2.2.1 HN.out
          by_cases hjl : j < acl.length
          · obtain ⟨b, off, rfl, q0, q1, q2⟩ := HAC.out j hjl
            have p0 := cell_later (q0) (HWB.out _ _ _ HRj.out) hB0
            have HQ : Hid _ := And.intro q1 q2
            obtain ⟨g0, g1, _, _⟩ := HG.out.ae acl[j] (List.getElem_mem hjl)
            have HI : Hid _ := HBD.out.2.2.2.1 acl[j] (List.getElem_mem hjl)
            have HAN : Hid _ := acB_next acl j hjl
            have HLj : Hid ((acB (acl.take j)).length ≤ 1000) := by show _ ≤ _; have h1 := acB_small (acl.take j) (fun x hx => HBD.out.2.2.2.1 x (List.mem_of_mem_take hx)); rw [List.length_take] at h1; omega
            clear HAC q0 q1 q2
            generalize acl[j] = x at *
            go_wp2_with fail
            refine (refInt8_any x.perms _ g0 g1).mono ?_
            rintro e wka ⟨uka, rfl, hu, hb⟩
            have HX := behind_new HRj.out hb hu (by have h1 := HZL.out; have h2 := HLj.out; simp [be4]; omega)
            clear hu hb
            go_wp2_with fail
            refine HX.mono ?_
            clear HX
            rintro e wkb ⟨vkb, rfl, hv, _⟩
            have HRk : Hid (Beh B w0 v (zs ++ (be4 acl.length ++ acB (acl.take j)) ++ [x.perms % 256]) wkb vkb) := hv
            clear hv
            clear p0 cb
            have cb := HRk.out.kept.cell HC.out.2.2.2.1 HN.out
            have p1 := cell_later (HQ.out.1) (HWB.out _ _ _ HRk.out) hB0
            have p2 := cell_later (HQ.out.2) (HWB.out _ _ _ HRk.out) hB0
            clear HRj
            go_wp2_with fail
            refine (refPutId_any B vkb (zs ++ (be4 acl.length ++ acB (acl.take j)) ++ [x.perms % 256]) x.id _ HRk.out.own HRk.out.base (by have := HI.out.1; omega) (by have := HI.out.2; omega) (by have h1 := HZL.out; have h2 := HLj.out; simp [be4]; omega)).mono ?_
            rintro e wc ⟨vc, rfl, hvc⟩
            have HRn : Hid (Beh B w0 v (zs ++ (be4 acl.length ++ acB (acl.take (j + 1)))) wc vc) := by show Beh _ _ _ _ _ _; rw [HAN.out]; have := HRk.out.trans hvc; simpa [enB, List.append_assoc] using this
            clear hvc p1 p2 cb HRk HAN HI
            go_wp2_with fail
            go_roundw
            case rel => exact ⟨j + 1, by omega, by go_num, HRn⟩
            case measure => simp [intOf]; omega
          · obtain rfl : j = acl.length := by omega
            have HR4 : Hid (Beh B w0 v (xs ++ ([kind % 256] ++ encTo inner ⟨kind, path, data, acl, ver, eph, seq, ses, tmo, who⟩ more s (k + 1))) wr u0) := by show Beh _ _ _ _ _ _; rw [HT.out]; have h := HRj.out; rw [List.take_length] at h; exact h
            clear HRj
            go_wp2_with fail
            go_roundw
            case rel => exact ⟨k + 1, by omega, by go_num, HR4⟩
            case measure => simp [intOf]; omega
      · as_aux_lemma =>
        have hsk : ((s[k]).toNat : Int) = 118 := by omega
        have HT : Hid (xs ++ ([kind % 256] ++ encTo inner ⟨kind, path, data, acl, ver, eph, seq, ses, tmo, who⟩ more s (k + 1)) = zs ++ be4 (up32 ver)) := by show _ = _; rw [HNX.out, hsk, ← hzs]; simp [encLet]
        clear HNX hls hl1
        have c4 := HR.out.kept.cell HC.out.2.2.2.2.1 HN.out
        go_wp2_with fail
        refine (refInt32_any ver _ HG.out.v0 HG.out.v1).mono ?_
        rintro e w3a ⟨u3a, rfl, hu, hb⟩
        have HX := behind_new HR.out hb hu (by have h1 := HZL.out; have h2 := HBD.out; simp [be4]; omega)
        clear hu hb c4
        go_wp2_with fail
        refine HX.mono ?_
        clear HX
        rintro e w3b ⟨v3b, rfl, hv, _⟩
        have HR4 : Hid (Beh B w0 v (xs ++ ([kind % 256] ++ encTo inner ⟨kind, path, data, acl, ver, eph, seq, ses, tmo, who⟩ more s (k + 1))) w3b v3b) := by show Beh _ _ _ _ _ _; rw [HT.out]; exact hv
        clear hv HR
        go_wp2_with fail
        go_roundw
        case rel => exact ⟨k + 1, by omega, by go_num, HR4⟩
        case measure => simp [intOf]; omega
      · as_aux_lemma =>
        have hsk : ((s[k]).toNat : Int) = 102 := by omega
        have HT : Hid (xs ++ ([kind % 256] ++ encTo inner ⟨kind, path, data, acl, ver, eph, seq, ses, tmo, who⟩ more s (k + 1)) = zs ++ ([b2i eph] ++ [b2i seq])) := by show _ = _; rw [HNX.out, hsk, ← hzs]; simp [encLet]
        clear HNX hls hl1
        have c5 := HR.out.kept.cell HC.out.2.2.2.2.2.1 HN.out
        go_wp2_with fail
        refine (refBool_any eph _).mono ?_
        rintro e w3a ⟨u3a, rfl, hu, hb⟩
        have HX := behind_new HR.out hb hu (by have h1 := HZL.out; have h2 := HBD.out; simp; omega)
        clear hu hb c5
        go_wp2_with fail
        refine HX.mono ?_
        clear HX
        rintro e w3b ⟨v3b, rfl, hv, _⟩
        have HR3 : Hid (Beh B w0 v (zs ++ [b2i eph]) w3b v3b) := hv
        clear hv HR
        have c6 := HR3.out.kept.cell HC.out.2.2.2.2.2.2.1 HN.out
        go_wp2_with fail
        refine (refBool_any seq _).mono ?_
        rintro e w4a ⟨u4a, rfl, hu, hb⟩
        have HX := behind_new HR3.out hb hu (by have h1 := HZL.out; have h2 := HBD.out; simp; omega)
        clear hu hb c6
        go_wp2_with fail
        refine HX.mono ?_
        clear HX
        rintro e w4b ⟨v4b, rfl, hv, _⟩
        have HR4 : Hid (Beh B w0 v (xs ++ ([kind % 256] ++ encTo inner ⟨kind, path, data, acl, ver, eph, seq, ses, tmo, who⟩ more s (k + 1))) w4b v4b) := by show Beh _ _ _ _ _ _; rw [HT.out]; rw [← List.append_assoc]; exact hv
        clear hv HR3
        go_wp2_with fail
        go_roundw
        case rel => exact ⟨k + 1, by omega, by go_num, HR4⟩
        case measure => simp [intOf]; omega
      · as_aux_lemma =>
        cases inner
        · have hsk : ((s[k]).toNat : Int) = 115 := by omega
          have HT : Hid (xs ++ ([kind % 256] ++ encTo false ⟨kind, path, data, acl, ver, eph, seq, ses, tmo, who⟩ more s (k + 1)) = zs ++ be8 (up64 ses)) := by show _ = _; rw [HNX.out, hsk, ← hzs]; simp [encLet]
          clear HNX hls hl1
          have c7 := HR.out.kept.cell HC.out.2.2.2.2.2.2.2.1 HN.out
          go_wp2_with fail
          refine (refInt64_any ses _ HG.out.s0 HG.out.s1).mono ?_
          rintro e w3a ⟨u3a, rfl, hu, hb⟩
          have HX := behind_new HR.out hb hu (by have h1 := HZL.out; have h2 := HBD.out; simp [be8, be4]; omega)
          clear hu hb c7
          go_wp2_with fail
          refine HX.mono ?_
          clear HX
          rintro e w3b ⟨v3b, rfl, hv, _⟩
          have HR4 : Hid (Beh B w0 v (xs ++ ([kind % 256] ++ encTo false ⟨kind, path, data, acl, ver, eph, seq, ses, tmo, who⟩ more s (k + 1))) w3b v3b) := by show Beh _ _ _ _ _ _; rw [HT.out]; exact hv
          clear hv HR
          go_wp2_with fail
          go_roundw
          case rel => exact ⟨k + 1, by omega, by go_num, HR4⟩
          case measure => simp [intOf]; omega
        · have hsk : ((s[k]).toNat : Int) = 115 := by omega
          have HT : Hid (xs ++ ([kind % 256] ++ encTo true ⟨kind, path, data, acl, ver, eph, seq, ses, tmo, who⟩ more s (k + 1)) = zs ++ []) := by show _ = _; rw [HNX.out, hsk, ← hzs]; simp [encLet]
          clear HNX hls hl1
          have HR4 : Hid (Beh B w0 v (xs ++ ([kind % 256] ++ encTo true ⟨kind, path, data, acl, ver, eph, seq, ses, tmo, who⟩ more s (k + 1))) wr u0) := by show Beh _ _ _ _ _ _; rw [HT.out, List.append_nil]; exact HR.out
          clear HR
          go_wp2_with fail
          go_roundw
          case rel => exact ⟨k + 1, by omega, by go_num, HR4⟩
          case measure => simp [intOf]; omega
      · as_aux_lemma =>
        have hsk : ((s[k]).toNat : Int) = 116 := by omega
        have HT : Hid (xs ++ ([kind % 256] ++ encTo inner ⟨kind, path, data, acl, ver, eph, seq, ses, tmo, who⟩ more s (k + 1)) = zs ++ be4 (up32 tmo)) := by show _ = _; rw [HNX.out, hsk, ← hzs]; simp [encLet]
        clear HNX hls hl1
        have c8 := HR.out.kept.cell HC.out.2.2.2.2.2.2.2.2.1 HN.out
        go_wp2_with fail
        refine (refInt32_any tmo _ HG.out.t0 HG.out.t1).mono ?_
        rintro e w3a ⟨u3a, rfl, hu, hb⟩
        have HX := behind_new HR.out hb hu (by have h1 := HZL.out; have h2 := HBD.out; simp [be4]; omega)
        clear hu hb c8
        go_wp2_with fail
        refine HX.mono ?_
        clear HX
        rintro e w3b ⟨v3b, rfl, hv, _⟩
        have HR4 : Hid (Beh B w0 v (xs ++ ([kind % 256] ++ encTo inner ⟨kind, path, data, acl, ver, eph, seq, ses, tmo, who⟩ more s (k + 1))) w3b v3b) := by show Beh _ _ _ _ _ _; rw [HT.out]; exact hv
        clear hv HR
        go_wp2_with fail
        go_roundw
        case rel => exact ⟨k + 1, by omega, by go_num, HR4⟩
        case measure => simp [intOf]; omega
      · as_aux_lemma =>
        cases inner
        · have hsk : ((s[k]).toNat : Int) = 119 := by omega
          have HT : Hid (xs ++ ([kind % 256] ++ encTo false ⟨kind, path, data, acl, ver, eph, seq, ses, tmo, who⟩ more s (k + 1)) = zs ++ (be4 who.length ++ idsB who)) := by show _ = _; rw [HNX.out, hsk, ← hzs]; simp [encLet]
          clear HNX hls hl1
          have hal := HBD.out.2.2.2.2.2.2.2.1
          have HUP : Hid (up32 (who.length : Int) = who.length) := by show _ = _; unfold up32; omega
          have HAC : Hid (∀ j (hj : j < who.length), ∃ b off, e0 = some ⟨b, off, none⟩ ∧ w00.cell? ⟨b, off + j * 2, none⟩ = some (.string who[j].1) ∧ w00.cell? ⟨b, off + j * 2 + 1, none⟩ = some (.string who[j].2)) := by
            obtain ⟨ao, cap, e, _, HC'⟩ := cellsIW HL.out.2.2.2.1
            cases e
            exact HC'
          have c9 := HR.out.kept.cell HC.out.2.2.2.2.2.2.2.2.2.1 HN.out
          go_wp2_with fail
          refine (refInt32_any who.length _ (by omega) (by omega)).mono ?_
          rintro e w3a ⟨u3a, rfl, hu, hb⟩
          have HX := behind_new HR.out hb hu (by have h1 := HZL.out; have h2 := HBD.out; simp [be4]; omega)
          clear hu hb c9
          go_wp2_with fail
          refine HX.mono ?_
          clear HX
          rintro e w3b ⟨v3b, rfl, hv, _⟩
          have HR3 : Hid (Beh B w0 v (zs ++ be4 who.length) w3b v3b) := by rw [HUP.out] at hv; exact hv
          clear hv HR
          obtain ⟨wo, hwo⟩ : ∃ wo, wo = wr := ⟨_, rfl⟩
          subst hwo
          go_wp2_with fail
          go_loopw [0, 10] (fun b i wr => ∃ j : Nat, j ≤ who.length ∧ i = .int .i64 j ∧ Hid (Beh B w0 v (zs ++ (be4 who.length ++ idsB (who.take j))) wr b)) (fun _ i _ => who.length - (intOf i).toNat)
          case atStart => exact ⟨0, Nat.zero_le _, rfl, by show Beh _ _ _ _ _ _; simpa [idsB] using HR3.out⟩
          case round =>
            clear HR3
            obtain ⟨j, hj, rfl, HRj⟩ := hrel
            have cb := HRj.out.kept.cell HC.out.2.2.2.2.2.2.2.2.2.1 HN.out
            by_cases hjl : j < who.length
            · obtain ⟨b, off, rfl, q0, q1⟩ := HAC.out j hjl
              have p0 := cell_later (q0) (HWB.out _ _ _ HRj.out) hB0
              have p1 := cell_later (q1) (HWB.out _ _ _ HRj.out) hB0
              have HI : Hid _ := HBD.out.2.2.2.2.2.2.2.2 who[j] (List.getElem_mem hjl)
              have HAN : Hid _ := idsB_next who j hjl
              have HLj : Hid ((idsB (who.take j)).length ≤ 1000) := by show _ ≤ _; have h1 := idsB_small (who.take j) (fun x hx => HBD.out.2.2.2.2.2.2.2.2 x (List.mem_of_mem_take hx)); rw [List.length_take] at h1; omega
              clear HAC q0 q1
              generalize who[j] = x at *
              go_wp2_with fail
              refine (refPutId_any B u0 (zs ++ (be4 who.length ++ idsB (who.take j))) x _ HRj.out.own HRj.out.base (by have := HI.out.1; omega) (by have := HI.out.2; omega) (by have h1 := HZL.out; have h2 := HLj.out; simp [be4]; omega)).mono ?_
              rintro e wc ⟨vc, rfl, hvc⟩
              have HRn : Hid (Beh B w0 v (zs ++ (be4 who.length ++ idsB (who.take (j + 1)))) wc vc) := by show Beh _ _ _ _ _ _; rw [HAN.out]; have := HRj.out.trans hvc; simpa [List.append_assoc] using this
              clear hvc p0 p1 cb HRj HAN HI
              go_wp2_with fail
              go_roundw
              case rel => exact ⟨j + 1, by omega, by go_num, HRn⟩
              case measure => simp [intOf]; omega
            · obtain rfl : j = who.length := by omega
              have HR4 : Hid (Beh B w0 v (xs ++ ([kind % 256] ++ encTo false ⟨kind, path, data, acl, ver, eph, seq, ses, tmo, who⟩ more s (k + 1))) wr u0) := by show Beh _ _ _ _ _ _; rw [HT.out]; have h := HRj.out; rw [List.take_length] at h; exact h
              clear HRj
              go_wp2_with fail
              go_roundw
              case rel => exact ⟨k + 1, by omega, by go_num, HR4⟩
              case measure => simp [intOf]; omega
        · have hsk : ((s[k]).toNat : Int) = 119 := by omega
          have HT : Hid (xs ++ ([kind % 256] ++ encTo true ⟨kind, path, data, acl, ver, eph, seq, ses, tmo, who⟩ more s (k + 1)) = zs ++ []) := by show _ = _; rw [HNX.out, hsk, ← hzs]; simp [encLet]
          clear HNX hls hl1
          have HR4 : Hid (Beh B w0 v (xs ++ ([kind % 256] ++ encTo true ⟨kind, path, data, acl, ver, eph, seq, ses, tmo, who⟩ more s (k + 1))) wr u0) := by show Beh _ _ _ _ _ _; rw [HT.out, List.append_nil]; exact HR.out
          clear HR
          go_wp2_with fail
          go_roundw
          case rel => exact ⟨k + 1, by omega, by go_num, HR4⟩
          case measure => simp [intOf]; omega
      · as_aux_lemma =>
        obtain ⟨hls, hk6⟩ := hls
        have HO6 : Hid _ := HO.out hk6
        have hn8 := hn hk6
        clear HO hk6 hn
        have hsk : ((s[k]).toNat : Int) = 111 := by omega
        have HT : Hid (xs ++ ([kind % 256] ++ encTo inner ⟨kind, path, data, acl, ver, eph, seq, ses, tmo, who⟩ more s (k + 1)) = zs ++ more) := by show _ = _; rw [HNX.out, hsk, ← hzs]; simp [encLet]
        clear HNX hls hl1
        have HUP : Hid (up32 (n : Int) = n) := by show _ = _; unfold up32; omega
        have HAC : Hid (∀ j (hj : j < n), ∃ b off, o0 = some ⟨b, off, none⟩ ∧ ∀ i, i < 11 → w00.cell? ⟨b, off + j * 11 + i, none⟩ = some ((oc ⟨j, hj⟩).getD i (.bool false))) := by
          obtain ⟨ao, cap, e, _, _, _, h3⟩ := HL.out.2.2.2.2
          rw [List.length_ofFn] at e
          cases e
          intro j hj
          rcases h3 with h3 | ⟨b, off, rfl, h3⟩
          · have : n = 0 := by simpa using congrArg List.length h3
            omega
          · refine ⟨b, off, rfl, fun i hi => ?_⟩
            have := h3 j (by simpa using hj) i hi
            simpa using this
        have c10 := HR.out.kept.cell HC.out.2.2.2.2.2.2.2.2.2.2 HN.out
        go_wp2_with fail
        refine (refInt32_any n _ (by omega) (by omega)).mono ?_
        rintro e w3a ⟨u3a, rfl, hu, hb⟩
        have HX := behind_new HR.out hb hu (by have h1 := HZL.out; have h2 := HBD.out; simp [be4]; omega)
        clear hu hb c10
        go_wp2_with fail
        refine HX.mono ?_
        clear HX
        rintro e w3b ⟨v3b, rfl, hv, _⟩
        have HR3 : Hid (Beh B w0 v (zs ++ enc 0) w3b v3b) := by rw [HUP.out, ← HEn.out.1] at hv; exact hv
        clear hv HR
        obtain ⟨wo, hwo⟩ : ∃ wo, wo = wr := ⟨_, rfl⟩
        subst hwo
        go_wp2_with fail
        go_loopw [0, 11] (fun b i wr => ∃ j : Nat, j ≤ n ∧ i = .int .i64 j ∧ Hid (Beh B w0 v (zs ++ enc j) wr b)) (fun _ i _ => n - (intOf i).toNat)
        case atStart => exact ⟨0, Nat.zero_le _, rfl, HR3⟩
        case round =>
          clear HR3
          obtain ⟨j, hj, rfl, HRj⟩ := hrel
          have cb := HRj.out.kept.cell HC.out.2.2.2.2.2.2.2.2.2.2 HN.out
          by_cases hjl : j < n
          · obtain ⟨b, off, rfl, q⟩ := HAC.out j hjl
            have hX := HO6.out j hjl wr u0 zs (HKW.out _ _ _ HRj.out) HRj.out.base HRj.out.own HZ2.out
            obtain ⟨x0, x1, x2, x3, x4, x5, x6, x7, x8, x9, x10, hx⟩ := list11 (HOL.out ⟨j, hjl⟩)
            rw [hx] at q hX
            have p0 : wr.cell? ⟨b, off + j * 11, none⟩ = some x0 := cell_later (q 0 (by omega)) (HWB.out _ _ _ HRj.out) hB0
            have p1 : wr.cell? ⟨b, off + j * 11 + 1, none⟩ = some x1 := cell_later (q 1 (by omega)) (HWB.out _ _ _ HRj.out) hB0
            have p2 : wr.cell? ⟨b, off + j * 11 + 2, none⟩ = some x2 := cell_later (q 2 (by omega)) (HWB.out _ _ _ HRj.out) hB0
            have p3 : wr.cell? ⟨b, off + j * 11 + 3, none⟩ = some x3 := cell_later (q 3 (by omega)) (HWB.out _ _ _ HRj.out) hB0
            have p4 : wr.cell? ⟨b, off + j * 11 + 4, none⟩ = some x4 := cell_later (q 4 (by omega)) (HWB.out _ _ _ HRj.out) hB0
            have p5 : wr.cell? ⟨b, off + j * 11 + 5, none⟩ = some x5 := cell_later (q 5 (by omega)) (HWB.out _ _ _ HRj.out) hB0
            have p6 : wr.cell? ⟨b, off + j * 11 + 6, none⟩ = some x6 := cell_later (q 6 (by omega)) (HWB.out _ _ _ HRj.out) hB0
            have p7 : wr.cell? ⟨b, off + j * 11 + 7, none⟩ = some x7 := cell_later (q 7 (by omega)) (HWB.out _ _ _ HRj.out) hB0
            have p8 : wr.cell? ⟨b, off + j * 11 + 8, none⟩ = some x8 := cell_later (q 8 (by omega)) (HWB.out _ _ _ HRj.out) hB0
            have p9 : wr.cell? ⟨b, off + j * 11 + 9, none⟩ = some x9 := cell_later (q 9 (by omega)) (HWB.out _ _ _ HRj.out) hB0
            have p10 : wr.cell? ⟨b, off + j * 11 + 10, none⟩ = some x10 := cell_later (q 10 (by omega)) (HWB.out _ _ _ HRj.out) hB0
            clear HAC q hx
            go_wp2_with fail
            refine hX.mono ?_
            clear hX
            rintro e wc ⟨vc, rfl, hvc⟩
            have HRn : Hid (Beh B w0 v (zs ++ enc (j + 1)) wc vc) := HRj.out.trans hvc
            clear hvc cb HRj p0 p1 p2 p3 p4 p5 p6 p7 p8 p9 p10
            go_wp2_with fail
            go_roundw
            case rel => exact ⟨j + 1, by omega, by go_num, HRn⟩
            case measure => simp [intOf]; omega
          · obtain rfl : j = n := by omega
            have HR4 : Hid (Beh B w0 v (xs ++ ([kind % 256] ++ encTo inner ⟨kind, path, data, acl, ver, eph, seq, ses, tmo, who⟩ more s (k + 1))) wr u0) := by show Beh _ _ _ _ _ _; rw [HT.out]; have h := HRj.out; rw [HEn.out.2.1] at h; exact h
            clear HRj
            go_wp2_with fail
            go_roundw
            case rel => exact ⟨k + 1, by omega, by go_num, HR4⟩
            case measure => simp [intOf]; omega
    · obtain rfl : k = s.size := by omega
      have HE : Hid (Beh B w v Z wr u0) := by show Beh _ _ _ _ _ _; rw [HZ.out]; exact HFIN.out _ _ _ HR.out
      clear HR
      go_wp2_with fail
      go_ret
      exact ⟨_, rfl, HE.out⟩
end Go.Proofs.YtobnggkgpenmfaaGreatDoor
