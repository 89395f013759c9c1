/- The document's may and the program's bits agree, kinds 7 to 12. No Go function is walked here. -/
import Derived.Test.YteoghfmhbdkjbaaGreatDoorWdQJ
namespace Go.Proofs.YteoghfmhbdkjbaaGreatDoor
open Go.RowKit
set_option maxRecDepth 8000

set_option maxHeartbeats 1000000 in
theorem mayF_7 (f : RqF) (n : Nat) (h : f.kind = 7) : mayF f n = (flatOk 12 0 f n && (bdOk f && decide ((n : Int) ≤ 8))) := by
  obtain ⟨kind, path, data, acl, ver, eph, seq, ses, tmo, who⟩ := f
  simp only at h
  subst h
  have e1 : nms 12 0 7 = 128 := by decide +kernel
  have e2 : need 7 = 128 := by decide +kernel
  have e3 : (lt4 7).toList.isEmpty = false := by decide +kernel
  have hp : hasB (lt4 7) 112 = false := by decide +kernel
  have hd : hasB (lt4 7) 100 = false := by decide +kernel
  have ha : hasB (lt4 7) 97 = false := by decide +kernel
  have hv : hasB (lt4 7) 118 = false := by decide +kernel
  have hf : hasB (lt4 7) 102 = false := by decide +kernel
  have hs : hasB (lt4 7) 115 = false := by decide +kernel
  have ht : hasB (lt4 7) 116 = true := by decide +kernel
  have hw : hasB (lt4 7) 119 = false := by decide +kernel
  have ho : hasB (lt4 7) 111 = false := by decide +kernel
  unfold mayF mayB flatOk bdOk fz
  simp only [e1, e2, e3, fz_128, nd_128, hp, hd, ha, hv, hf, hs, ht, hw, ho]
  generalize aclOk acl = x1
  generalize whoOk who = x2
  generalize path.toList.isEmpty = x3
  generalize path.size = x4
  generalize data.length = x5
  generalize acl.length = x6
  generalize who.length = x7
  rw [Bool.eq_iff_iff]
  cases x1 <;> cases x2 <;> cases x3 <;> cases eph <;> cases seq <;> simp <;> omega

set_option maxHeartbeats 1000000 in
theorem mayF_8 (f : RqF) (n : Nat) (h : f.kind = 8) : mayF f n = (flatOk 12 0 f n && (bdOk f && decide ((n : Int) ≤ 8))) := by
  obtain ⟨kind, path, data, acl, ver, eph, seq, ses, tmo, who⟩ := f
  simp only at h
  subst h
  have e1 : nms 12 0 8 = 64 := by decide +kernel
  have e2 : need 8 = 64 := by decide +kernel
  have e3 : (lt4 8).toList.isEmpty = false := by decide +kernel
  have hp : hasB (lt4 8) 112 = false := by decide +kernel
  have hd : hasB (lt4 8) 100 = false := by decide +kernel
  have ha : hasB (lt4 8) 97 = false := by decide +kernel
  have hv : hasB (lt4 8) 118 = false := by decide +kernel
  have hf : hasB (lt4 8) 102 = false := by decide +kernel
  have hs : hasB (lt4 8) 115 = true := by decide +kernel
  have ht : hasB (lt4 8) 116 = false := by decide +kernel
  have hw : hasB (lt4 8) 119 = false := by decide +kernel
  have ho : hasB (lt4 8) 111 = false := by decide +kernel
  unfold mayF mayB flatOk bdOk fz
  simp only [e1, e2, e3, fz_64, nd_64, hp, hd, ha, hv, hf, hs, ht, hw, ho]
  generalize aclOk acl = x1
  generalize whoOk who = x2
  generalize path.toList.isEmpty = x3
  generalize path.size = x4
  generalize data.length = x5
  generalize acl.length = x6
  generalize who.length = x7
  rw [Bool.eq_iff_iff]
  cases x1 <;> cases x2 <;> cases x3 <;> cases eph <;> cases seq <;> simp <;> omega

set_option maxHeartbeats 1000000 in
theorem mayF_9 (f : RqF) (n : Nat) (h : f.kind = 9) : mayF f n = (flatOk 12 0 f n && (bdOk f && decide ((n : Int) ≤ 8))) := by
  obtain ⟨kind, path, data, acl, ver, eph, seq, ses, tmo, who⟩ := f
  simp only at h
  subst h
  have e1 : nms 12 0 9 = 321 := by decide +kernel
  have e2 : need 9 = 0 := by decide +kernel
  have e3 : (lt4 9).toList.isEmpty = false := by decide +kernel
  have hp : hasB (lt4 9) 112 = true := by decide +kernel
  have hd : hasB (lt4 9) 100 = false := by decide +kernel
  have ha : hasB (lt4 9) 97 = false := by decide +kernel
  have hv : hasB (lt4 9) 118 = false := by decide +kernel
  have hf : hasB (lt4 9) 102 = false := by decide +kernel
  have hs : hasB (lt4 9) 115 = true := by decide +kernel
  have ht : hasB (lt4 9) 116 = false := by decide +kernel
  have hw : hasB (lt4 9) 119 = true := by decide +kernel
  have ho : hasB (lt4 9) 111 = false := by decide +kernel
  unfold mayF mayB flatOk bdOk fz
  simp only [e1, e2, e3, fz_321, nd_0, hp, hd, ha, hv, hf, hs, ht, hw, ho]
  generalize aclOk acl = x1
  generalize whoOk who = x2
  generalize path.toList.isEmpty = x3
  generalize path.size = x4
  generalize data.length = x5
  generalize acl.length = x6
  generalize who.length = x7
  rw [Bool.eq_iff_iff]
  cases x1 <;> cases x2 <;> cases x3 <;> cases eph <;> cases seq <;> simp <;> omega

set_option maxHeartbeats 1000000 in
theorem mayF_10 (f : RqF) (n : Nat) (h : f.kind = 10) : mayF f n = (flatOk 12 0 f n && (bdOk f && decide ((n : Int) ≤ 8))) := by
  obtain ⟨kind, path, data, acl, ver, eph, seq, ses, tmo, who⟩ := f
  simp only at h
  subst h
  have e1 : nms 12 0 10 = 321 := by decide +kernel
  have e2 : need 10 = 0 := by decide +kernel
  have e3 : (lt4 10).toList.isEmpty = false := by decide +kernel
  have hp : hasB (lt4 10) 112 = true := by decide +kernel
  have hd : hasB (lt4 10) 100 = false := by decide +kernel
  have ha : hasB (lt4 10) 97 = false := by decide +kernel
  have hv : hasB (lt4 10) 118 = false := by decide +kernel
  have hf : hasB (lt4 10) 102 = false := by decide +kernel
  have hs : hasB (lt4 10) 115 = true := by decide +kernel
  have ht : hasB (lt4 10) 116 = false := by decide +kernel
  have hw : hasB (lt4 10) 119 = true := by decide +kernel
  have ho : hasB (lt4 10) 111 = false := by decide +kernel
  unfold mayF mayB flatOk bdOk fz
  simp only [e1, e2, e3, fz_321, nd_0, hp, hd, ha, hv, hf, hs, ht, hw, ho]
  generalize aclOk acl = x1
  generalize whoOk who = x2
  generalize path.toList.isEmpty = x3
  generalize path.size = x4
  generalize data.length = x5
  generalize acl.length = x6
  generalize who.length = x7
  rw [Bool.eq_iff_iff]
  cases x1 <;> cases x2 <;> cases x3 <;> cases eph <;> cases seq <;> simp <;> omega

set_option maxHeartbeats 1000000 in
theorem mayF_11 (f : RqF) (n : Nat) (h : f.kind = 11) : mayF f n = (flatOk 12 0 f n && (bdOk f && decide ((n : Int) ≤ 8))) := by
  obtain ⟨kind, path, data, acl, ver, eph, seq, ses, tmo, who⟩ := f
  simp only at h
  subst h
  have e1 : nms 12 0 11 = 321 := by decide +kernel
  have e2 : need 11 = 0 := by decide +kernel
  have e3 : (lt4 11).toList.isEmpty = false := by decide +kernel
  have hp : hasB (lt4 11) 112 = true := by decide +kernel
  have hd : hasB (lt4 11) 100 = false := by decide +kernel
  have ha : hasB (lt4 11) 97 = false := by decide +kernel
  have hv : hasB (lt4 11) 118 = false := by decide +kernel
  have hf : hasB (lt4 11) 102 = false := by decide +kernel
  have hs : hasB (lt4 11) 115 = true := by decide +kernel
  have ht : hasB (lt4 11) 116 = false := by decide +kernel
  have hw : hasB (lt4 11) 119 = true := by decide +kernel
  have ho : hasB (lt4 11) 111 = false := by decide +kernel
  unfold mayF mayB flatOk bdOk fz
  simp only [e1, e2, e3, fz_321, nd_0, hp, hd, ha, hv, hf, hs, ht, hw, ho]
  generalize aclOk acl = x1
  generalize whoOk who = x2
  generalize path.toList.isEmpty = x3
  generalize path.size = x4
  generalize data.length = x5
  generalize acl.length = x6
  generalize who.length = x7
  rw [Bool.eq_iff_iff]
  cases x1 <;> cases x2 <;> cases x3 <;> cases eph <;> cases seq <;> simp <;> omega

set_option maxHeartbeats 1000000 in
theorem mayF_12 (f : RqF) (n : Nat) (h : f.kind = 12) : mayF f n = (flatOk 12 0 f n && (bdOk f && decide ((n : Int) ≤ 8))) := by
  obtain ⟨kind, path, data, acl, ver, eph, seq, ses, tmo, who⟩ := f
  simp only at h
  subst h
  have e1 : nms 12 0 12 = 321 := by decide +kernel
  have e2 : need 12 = 0 := by decide +kernel
  have e3 : (lt4 12).toList.isEmpty = false := by decide +kernel
  have hp : hasB (lt4 12) 112 = true := by decide +kernel
  have hd : hasB (lt4 12) 100 = false := by decide +kernel
  have ha : hasB (lt4 12) 97 = false := by decide +kernel
  have hv : hasB (lt4 12) 118 = false := by decide +kernel
  have hf : hasB (lt4 12) 102 = false := by decide +kernel
  have hs : hasB (lt4 12) 115 = true := by decide +kernel
  have ht : hasB (lt4 12) 116 = false := by decide +kernel
  have hw : hasB (lt4 12) 119 = true := by decide +kernel
  have ho : hasB (lt4 12) 111 = false := by decide +kernel
  unfold mayF mayB flatOk bdOk fz
  simp only [e1, e2, e3, fz_321, nd_0, hp, hd, ha, hv, hf, hs, ht, hw, ho]
  generalize aclOk acl = x1
  generalize whoOk who = x2
  generalize path.toList.isEmpty = x3
  generalize path.size = x4
  generalize data.length = x5
  generalize acl.length = x6
  generalize who.length = x7
  rw [Bool.eq_iff_iff]
  cases x1 <;> cases x2 <;> cases x3 <;> cases eph <;> cases seq <;> simp <;> omega

end Go.Proofs.YteoghfmhbdkjbaaGreatDoor
