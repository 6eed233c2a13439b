/- LinOk of the program, at every text. No condition. (Several texts, joined: Shelf, ICut, ISeq, ISeqS, ShelfB, IBuild, ILin.) -/
import Derived.Shelf.Lays
import Derived.Shelf.LaysC
import Derived.Shelf.LaysM
import Derived.Test.YtoimjpkgkcomnaaGreatDoorProg
import Derived.Test.YtoimjpkgkcomnaaGreatDoorChecked
import Derived.Test.YtoimjpkgkcomnaaGreatDoorGen
import Derived.Test.YtoimjpkgkcomnaaGreatDoorTBoxOkc
import Derived.Shelf.Strings.LastIndex
import Derived.Shelf.Strings.Search2
import Derived.Lib.CutLaws
import Derived.Lib.IndexBytes
import Derived.RegionTactic
import Derived.IntWalk
import Derived.Lib.SmallJoins
import Derived.RangeFuncNested
import Derived.RangeFuncBound
import Derived.RangeFuncCalls
import Derived.RangeFuncLeaves
import Derived.RangeFuncBox
import Derived.Shelf.Abstract
import Derived.Shelf.RegionOpen
import Derived.WalkKit
import Derived.OwnWalkIn
import Derived.TacticsInMore
import Derived.LoopNIn
import Derived.LoopIn
import Derived.Maps.AppendAt
import Derived.Test.YtoimjpkgkcomnaaGreatDoorBase
import Derived.Shelf.Strings.BuilderK
import Derived.Lib.Hide
import Derived.OwnWalk
import Derived.Test.YtoimjpkgkcomnaaGreatDoorLines

/- The layings of the library's contracts at this dump: that the bodies of the library functions that are met here are the bodies that the contracts were proved of. No condition. -/
namespace Go.Proofs
open Go.Shelf
def Tryz.laysM171_ren : Go.Shelf.Ren := ⟨fun | 171 => 101 | 243 => 161 | 246 => 182 | 283 => 200 | 284 => 201 | 285 => 202 | 286 => 203 | 129 => 213 | 317 => 212 | 318 => 214 | 319 => 215 | 320 => 216 | 337 => 227 | 338 => 228 | n => n, fun | 3 => 3 | 9 => 9 | 2 => 2 | 4 => 4 | 171 => 212 | 0 => 0 | 53 => 213 | 37 => 22 | 5 => 5 | 173 => 216 | 212 => 224 | 51 => 225 | 20 => 20 | 213 => 226 | 46 => 222 | 232 => 236 | 233 => 237 | n => n, fun | 17 => 0 | 18 => 3 | 19 => 4 | n => n⟩
theorem Tryz.laysM171 : Go.Proofs.LaysM.n171 Tryz.prog Tryz.laysM171_ren := {
  mixed := by kernel_rfl
  f129 := Tryz.func213.trans (congrArg some (by kernel_rfl))
  f171 := Tryz.func101.trans (congrArg some (by kernel_rfl))
  f243 := Tryz.func161.trans (congrArg some (by kernel_rfl))
  f246 := Tryz.func182.trans (congrArg some (by kernel_rfl))
  f283 := Tryz.func200.trans (congrArg some (by kernel_rfl))
  f284 := Tryz.func201.trans (congrArg some (by kernel_rfl))
  f285 := Tryz.func202.trans (congrArg some (by kernel_rfl))
  f286 := Tryz.func203.trans (congrArg some (by kernel_rfl))
  f317 := Tryz.func212.trans (congrArg some (by kernel_rfl))
  f318 := Tryz.func214.trans (congrArg some (by kernel_rfl))
  f319 := Tryz.func215.trans (congrArg some (by kernel_rfl))
  f320 := Tryz.func216.trans (congrArg some (by kernel_rfl))
  f337 := Tryz.func227.trans (congrArg some (by kernel_rfl))
  f338 := Tryz.func228.trans (congrArg some (by kernel_rfl))
  t0 := Tryz.underlying0
  a0 := Tryz.isAgg0
  z0 := Tryz.sizeOf0
  v0 := Tryz.zeroValue0
  t2 := Tryz.underlying2
  a2 := Tryz.isAgg2
  z2 := Tryz.sizeOf2
  v2 := Tryz.zeroValue2
  t3 := Tryz.underlying3
  a3 := Tryz.isAgg3
  z3 := Tryz.sizeOf3
  v3 := Tryz.zeroValue3
  t4 := Tryz.underlying4
  a4 := Tryz.isAgg4
  z4 := Tryz.sizeOf4
  v4 := Tryz.zeroValue4
  t5 := Tryz.underlying5
  a5 := Tryz.isAgg5
  z5 := Tryz.sizeOf5
  v5 := Tryz.zeroValue5
  t9 := Tryz.underlying9
  a9 := Tryz.isAgg9
  z9 := Tryz.sizeOf9
  v9 := Tryz.zeroValue9
  t20 := Tryz.underlying20
  a20 := Tryz.isAgg20
  z20 := Tryz.sizeOf20
  v20 := Tryz.zeroValue20
  t37 := Tryz.underlying22
  a37 := Tryz.isAgg22
  z37 := Tryz.sizeOf22
  v37 := Tryz.zeroValue22
  t46 := Tryz.underlying222
  a46 := Tryz.isAgg222
  z46 := Tryz.sizeOf222
  v46 := Tryz.zeroValue222
  t51 := Tryz.underlying225
  a51 := Tryz.isAgg225
  z51 := Tryz.sizeOf225
  v51 := Tryz.zeroValue225
  t53 := Tryz.underlying213
  a53 := Tryz.isAgg213
  z53 := Tryz.sizeOf213
  v53 := Tryz.zeroValue213
  t171 := Tryz.underlying212
  a171 := Tryz.isAgg212
  z171 := Tryz.sizeOf212
  v171 := Tryz.zeroValue212
  t173 := Tryz.underlying216
  a173 := Tryz.isAgg216
  z173 := Tryz.sizeOf216
  v173 := Tryz.zeroValue216
  t212 := Tryz.underlying224
  a212 := Tryz.isAgg224
  z212 := Tryz.sizeOf224
  v212 := Tryz.zeroValue224
  t213 := Tryz.underlying226
  a213 := Tryz.isAgg226
  z213 := Tryz.sizeOf226
  t232 := Tryz.underlying236
  a232 := Tryz.isAgg236
  z232 := Tryz.sizeOf236
  v232 := Tryz.zeroValue236
  t233 := Tryz.underlying237
  a233 := Tryz.isAgg237
  z233 := Tryz.sizeOf237
  v233 := Tryz.zeroValue237
  g17 := by kernel_rfl
  g18 := by kernel_rfl
  g19 := by kernel_rfl
  i0 := by kernel_rfl
  i2 := by kernel_rfl
  i3 := by kernel_rfl
  i4 := by kernel_rfl
  i5 := by kernel_rfl
  i9 := by kernel_rfl
  i20 := by kernel_rfl
  i37 := by kernel_rfl
  i46 := by kernel_rfl
  i51 := by kernel_rfl
  i53 := by kernel_rfl
  i171 := by kernel_rfl
  i173 := by kernel_rfl
  i212 := by kernel_rfl
  i232 := by kernel_rfl
  i233 := by kernel_rfl
  m17 := by kernel_rfl
  m18 := by kernel_rfl
  m19 := by kernel_rfl }
def Tryz.lays219_ren : Go.Shelf.Ren := ⟨fun | 219 => 208 | 217 => 221 | 225 => 222 | 224 => 223 | 267 => 224 | 266 => 229 | 314 => 230 | n => n, fun | 9 => 9 | 3 => 3 | 4 => 4 | 5 => 5 | 46 => 222 | 146 => 230 | 51 => 225 | n => n, fun | 1 => 1 | n => n⟩
theorem Tryz.lays219 : Go.Proofs.Lays.n219 Tryz.prog Tryz.lays219_ren := {
  mixed := by kernel_rfl
  f217 := Tryz.func221.trans (congrArg some (by kernel_rfl))
  f219 := Tryz.func208.trans (congrArg some (by kernel_rfl))
  f224 := Tryz.func223.trans (congrArg some (by kernel_rfl))
  f225 := Tryz.func222.trans (congrArg some (by kernel_rfl))
  f266 := Tryz.func229.trans (congrArg some (by kernel_rfl))
  f267 := Tryz.func224.trans (congrArg some (by kernel_rfl))
  f314 := Tryz.func230.trans (congrArg some (by kernel_rfl))
  t3 := Tryz.underlying3
  a3 := Tryz.isAgg3
  z3 := Tryz.sizeOf3
  v3 := Tryz.zeroValue3
  t4 := Tryz.underlying4
  a4 := Tryz.isAgg4
  z4 := Tryz.sizeOf4
  v4 := Tryz.zeroValue4
  t5 := Tryz.underlying5
  a5 := Tryz.isAgg5
  z5 := Tryz.sizeOf5
  v5 := Tryz.zeroValue5
  t9 := Tryz.underlying9
  a9 := Tryz.isAgg9
  z9 := Tryz.sizeOf9
  v9 := Tryz.zeroValue9
  t46 := Tryz.underlying222
  a46 := Tryz.isAgg222
  z46 := Tryz.sizeOf222
  v46 := Tryz.zeroValue222
  t51 := Tryz.underlying225
  a51 := Tryz.isAgg225
  z51 := Tryz.sizeOf225
  v51 := Tryz.zeroValue225
  t146 := Tryz.underlying230
  a146 := Tryz.isAgg230
  z146 := Tryz.sizeOf230
  v146 := Tryz.zeroValue230
  g1 := by kernel_rfl }
def Tryz.laysC172_ren : Go.Shelf.Ren := ⟨fun | 172 => 233 | 244 => 234 | 245 => 235 | 247 => 236 | 279 => 237 | 280 => 238 | 281 => 239 | 282 => 240 | 287 => 241 | 316 => 242 | 171 => 101 | 205 => 243 | 321 => 244 | 322 => 245 | 243 => 161 | 246 => 182 | 283 => 200 | 284 => 201 | 285 => 202 | 286 => 203 | 129 => 213 | 317 => 212 | 318 => 214 | 319 => 215 | 320 => 216 | 337 => 227 | 338 => 228 | n => n, fun | 9 => 9 | 3 => 3 | 75 => 181 | 76 => 182 | 4 => 4 | 5 => 5 | 167 => 239 | 37 => 22 | 0 => 0 | 85 => 240 | 2 => 2 | 168 => 242 | 53 => 213 | 175 => 245 | 46 => 222 | 210 => 248 | 127 => 199 | 145 => 253 | 143 => 251 | 21 => 21 | 171 => 212 | 173 => 216 | 212 => 224 | 51 => 225 | 20 => 20 | 213 => 226 | 232 => 236 | 233 => 237 | 80 => 186 | n => n, fun | 15 => 6 | 16 => 7 | 17 => 0 | 18 => 3 | 19 => 4 | n => n⟩
theorem Tryz.laysC172 : Go.Proofs.LaysC.n172 Tryz.prog Tryz.laysC172_ren := {
  mixed := by kernel_rfl
  f129 := Tryz.func213.trans (congrArg some (by kernel_rfl))
  f171 := Tryz.func101.trans (congrArg some (by kernel_rfl))
  f172 := Tryz.func233.trans (congrArg some (by kernel_rfl))
  f205 := Tryz.func243.trans (congrArg some (by kernel_rfl))
  f243 := Tryz.func161.trans (congrArg some (by kernel_rfl))
  f244 := Tryz.func234.trans (congrArg some (by kernel_rfl))
  f245 := Tryz.func235.trans (congrArg some (by kernel_rfl))
  f246 := Tryz.func182.trans (congrArg some (by kernel_rfl))
  f247 := Tryz.func236.trans (congrArg some (by kernel_rfl))
  f279 := Tryz.func237.trans (congrArg some (by kernel_rfl))
  f280 := Tryz.func238.trans (congrArg some (by kernel_rfl))
  f281 := Tryz.func239.trans (congrArg some (by kernel_rfl))
  f282 := Tryz.func240.trans (congrArg some (by kernel_rfl))
  f283 := Tryz.func200.trans (congrArg some (by kernel_rfl))
  f284 := Tryz.func201.trans (congrArg some (by kernel_rfl))
  f285 := Tryz.func202.trans (congrArg some (by kernel_rfl))
  f286 := Tryz.func203.trans (congrArg some (by kernel_rfl))
  f287 := Tryz.func241.trans (congrArg some (by kernel_rfl))
  f316 := Tryz.func242.trans (congrArg some (by kernel_rfl))
  f317 := Tryz.func212.trans (congrArg some (by kernel_rfl))
  f318 := Tryz.func214.trans (congrArg some (by kernel_rfl))
  f319 := Tryz.func215.trans (congrArg some (by kernel_rfl))
  f320 := Tryz.func216.trans (congrArg some (by kernel_rfl))
  f321 := Tryz.func244.trans (congrArg some (by kernel_rfl))
  f322 := Tryz.func245.trans (congrArg some (by kernel_rfl))
  f337 := Tryz.func227.trans (congrArg some (by kernel_rfl))
  f338 := Tryz.func228.trans (congrArg some (by kernel_rfl))
  t0 := Tryz.underlying0
  a0 := Tryz.isAgg0
  z0 := Tryz.sizeOf0
  v0 := Tryz.zeroValue0
  t2 := Tryz.underlying2
  a2 := Tryz.isAgg2
  z2 := Tryz.sizeOf2
  v2 := Tryz.zeroValue2
  t3 := Tryz.underlying3
  a3 := Tryz.isAgg3
  z3 := Tryz.sizeOf3
  v3 := Tryz.zeroValue3
  t4 := Tryz.underlying4
  a4 := Tryz.isAgg4
  z4 := Tryz.sizeOf4
  v4 := Tryz.zeroValue4
  t5 := Tryz.underlying5
  a5 := Tryz.isAgg5
  z5 := Tryz.sizeOf5
  v5 := Tryz.zeroValue5
  t9 := Tryz.underlying9
  a9 := Tryz.isAgg9
  z9 := Tryz.sizeOf9
  v9 := Tryz.zeroValue9
  t20 := Tryz.underlying20
  a20 := Tryz.isAgg20
  z20 := Tryz.sizeOf20
  v20 := Tryz.zeroValue20
  t21 := Tryz.underlying21
  a21 := Tryz.isAgg21
  z21 := Tryz.sizeOf21
  v21 := Tryz.zeroValue21
  t37 := Tryz.underlying22
  a37 := Tryz.isAgg22
  z37 := Tryz.sizeOf22
  v37 := Tryz.zeroValue22
  t46 := Tryz.underlying222
  a46 := Tryz.isAgg222
  z46 := Tryz.sizeOf222
  v46 := Tryz.zeroValue222
  t51 := Tryz.underlying225
  a51 := Tryz.isAgg225
  z51 := Tryz.sizeOf225
  v51 := Tryz.zeroValue225
  t53 := Tryz.underlying213
  a53 := Tryz.isAgg213
  z53 := Tryz.sizeOf213
  v53 := Tryz.zeroValue213
  t75 := Tryz.underlying181
  a75 := Tryz.isAgg181
  z75 := Tryz.sizeOf181
  v75 := Tryz.zeroValue181
  t76 := Tryz.underlying182
  a76 := Tryz.isAgg182
  z76 := Tryz.sizeOf182
  v76 := Tryz.zeroValue182
  t85 := Tryz.underlying240
  a85 := Tryz.isAgg240
  z85 := Tryz.sizeOf240
  v85 := Tryz.zeroValue240
  t127 := Tryz.underlying199
  a127 := Tryz.isAgg199
  z127 := Tryz.sizeOf199
  v127 := Tryz.zeroValue199
  t143 := Tryz.underlying251
  a143 := Tryz.isAgg251
  z143 := Tryz.sizeOf251
  v143 := Tryz.zeroValue251
  t145 := Tryz.underlying253
  a145 := Tryz.isAgg253
  z145 := Tryz.sizeOf253
  v145 := Tryz.zeroValue253
  t167 := Tryz.underlying239
  a167 := Tryz.isAgg239
  z167 := Tryz.sizeOf239
  v167 := Tryz.zeroValue239
  t168 := Tryz.underlying242
  a168 := Tryz.isAgg242
  z168 := Tryz.sizeOf242
  v168 := Tryz.zeroValue242
  t171 := Tryz.underlying212
  a171 := Tryz.isAgg212
  z171 := Tryz.sizeOf212
  v171 := Tryz.zeroValue212
  t173 := Tryz.underlying216
  a173 := Tryz.isAgg216
  z173 := Tryz.sizeOf216
  v173 := Tryz.zeroValue216
  t175 := Tryz.underlying245
  a175 := Tryz.isAgg245
  z175 := Tryz.sizeOf245
  v175 := Tryz.zeroValue245
  t210 := Tryz.underlying248
  a210 := Tryz.isAgg248
  z210 := Tryz.sizeOf248
  v210 := Tryz.zeroValue248
  t212 := Tryz.underlying224
  a212 := Tryz.isAgg224
  z212 := Tryz.sizeOf224
  v212 := Tryz.zeroValue224
  t213 := Tryz.underlying226
  a213 := Tryz.isAgg226
  z213 := Tryz.sizeOf226
  t232 := Tryz.underlying236
  a232 := Tryz.isAgg236
  z232 := Tryz.sizeOf236
  v232 := Tryz.zeroValue236
  t233 := Tryz.underlying237
  a233 := Tryz.isAgg237
  z233 := Tryz.sizeOf237
  v233 := Tryz.zeroValue237
  g15 := by kernel_rfl
  g16 := by kernel_rfl
  g17 := by kernel_rfl
  g18 := by kernel_rfl
  g19 := by kernel_rfl
  t80 := Tryz.underlying186
  a80 := Tryz.isAgg186
  z80 := Tryz.sizeOf186
  v80 := Tryz.zeroValue186
  i0 := by kernel_rfl
  i2 := by kernel_rfl
  i3 := by kernel_rfl
  i4 := by kernel_rfl
  i5 := by kernel_rfl
  i9 := by kernel_rfl
  i20 := by kernel_rfl
  i21 := by kernel_rfl
  i37 := by kernel_rfl
  i46 := by kernel_rfl
  i51 := by kernel_rfl
  i53 := by kernel_rfl
  i75 := by kernel_rfl
  i76 := by kernel_rfl
  i80 := by kernel_rfl
  i85 := by kernel_rfl
  i127 := by kernel_rfl
  i143 := by kernel_rfl
  i145 := by kernel_rfl
  i167 := by kernel_rfl
  i168 := by kernel_rfl
  i171 := by kernel_rfl
  i173 := by kernel_rfl
  i175 := by kernel_rfl
  i210 := by kernel_rfl
  i212 := by kernel_rfl
  i232 := by kernel_rfl
  i233 := by kernel_rfl
  m15 := by kernel_rfl
  m16 := by kernel_rfl
  m17 := by kernel_rfl
  m18 := by kernel_rfl
  m19 := by kernel_rfl
  c0 := by kernel_rfl
  c2 := by kernel_rfl
  c3 := by kernel_rfl
  c4 := by kernel_rfl
  c5 := by kernel_rfl
  c9 := by kernel_rfl
  c20 := by kernel_rfl
  c21 := by kernel_rfl
  c37 := by kernel_rfl
  c46 := by kernel_rfl
  c51 := by kernel_rfl
  c53 := by kernel_rfl
  c75 := by kernel_rfl
  c76 := by kernel_rfl
  c80 := by kernel_rfl
  c85 := by kernel_rfl
  c127 := by kernel_rfl
  c143 := by kernel_rfl
  c145 := by kernel_rfl
  c167 := by kernel_rfl
  c168 := by kernel_rfl
  c171 := by kernel_rfl
  c173 := by kernel_rfl
  c175 := by kernel_rfl
  c210 := by kernel_rfl
  c212 := by kernel_rfl
  c213 := by kernel_rfl
  c232 := by kernel_rfl
  c233 := by kernel_rfl }
def Tryz.lays148_ren : Go.Shelf.Ren := ⟨fun | 148 => 189 | 222 => 206 | 223 => 207 | 269 => 220 | n => n, fun | 9 => 9 | 3 => 3 | 4 => 4 | 5 => 5 | 146 => 230 | 51 => 225 | 46 => 222 | n => n, fun | n => n⟩
theorem Tryz.lays148 : Go.Proofs.Lays.n148 Tryz.prog Tryz.lays148_ren := {
  mixed := by kernel_rfl
  f148 := Tryz.func189.trans (congrArg some (by kernel_rfl))
  f222 := Tryz.func206.trans (congrArg some (by kernel_rfl))
  f223 := Tryz.func207.trans (congrArg some (by kernel_rfl))
  f269 := Tryz.func220.trans (congrArg some (by kernel_rfl))
  t3 := Tryz.underlying3
  a3 := Tryz.isAgg3
  z3 := Tryz.sizeOf3
  v3 := Tryz.zeroValue3
  t4 := Tryz.underlying4
  a4 := Tryz.isAgg4
  z4 := Tryz.sizeOf4
  v4 := Tryz.zeroValue4
  t5 := Tryz.underlying5
  a5 := Tryz.isAgg5
  z5 := Tryz.sizeOf5
  v5 := Tryz.zeroValue5
  t9 := Tryz.underlying9
  a9 := Tryz.isAgg9
  z9 := Tryz.sizeOf9
  v9 := Tryz.zeroValue9
  t46 := Tryz.underlying222
  a46 := Tryz.isAgg222
  z46 := Tryz.sizeOf222
  v46 := Tryz.zeroValue222
  t51 := Tryz.underlying225
  a51 := Tryz.isAgg225
  z51 := Tryz.sizeOf225
  v51 := Tryz.zeroValue225
  t146 := Tryz.underlying230
  a146 := Tryz.isAgg230
  z146 := Tryz.sizeOf230
  v146 := Tryz.zeroValue230 }
end Go.Proofs

/- The text cut at its first sign that ends a line, by the library; what is behind the last one. Condition: the text has at most 2^48 bytes. -/
namespace Go.Proofs.YtoimjpkgkcomnaaGreatDoor
open Go.RowKit Go.Sort

set_option maxRecDepth 100000 in
set_option maxHeartbeats 800000 in
theorem cutSemiS_any (s : ByteArray) (w : World) (hs : s.size ≤ 281474976710656) :
    Calls Tryz.prog 190 #[.string s, .string ⟨#[59]⟩] w fun e w' => e = .returned (.tuple #[.string ⟨(Lib.cut s.data.toList [59]).1.toArray⟩, .string ⟨(Lib.cut s.data.toList [59]).2.1.toArray⟩, .bool (Lib.cut s.data.toList [59]).2.2]) ∧ ∃ n, w' = w.drewN n := by
  have hc : ∀ w, Calls Tryz.prog 208 #[.string s, .string ⟨#[59]⟩] w fun e w' => e = .returned (.int .i64 (Lib.index s.data.toList [59])) ∧ w' = w := by
    intro w; have := Any.stringslite_Index_one Tryz.lays219 s 59 w; rw [← Lib.index_one] at this; exact this
  have HC := Lib.hid hc
  clear hc
  rcases Lib.indexB_cases s ⟨#[59]⟩ with hix | ⟨i, hix, hroom⟩
  · obtain ⟨e1, e2, e3⟩ := Lib.cutB_miss s ⟨#[59]⟩ hix
    have hix' : Lib.index s.data.toList [59] = -1 := hix
    have E1 : Hid ((⟨(Lib.cut s.data.toList [59]).1.toArray⟩ : ByteArray) = s) := e1
    have E2 : Hid ((⟨(Lib.cut s.data.toList [59]).2.1.toArray⟩ : ByteArray) = ByteArray.empty) := e2
    have E3 : Hid ((Lib.cut s.data.toList [59]).2.2 = false) := e3
    have HI := Lib.hid hix'
    clear e1 e2 e3 hix hix'
    go_enter Tryz.func190, Tryz.ntmps190
    go_wp2_with (go_at_call 208; refine (HC.out _).mono ?_; rintro e w' ⟨rfl, rfl⟩; rw [HI.out])
    go_ret3
    exact ⟨by rw [E1.out, E2.out, E3.out]; rfl, 0, rfl⟩
  · obtain ⟨e1, e2, e3⟩ := Lib.cutB_hit s ⟨#[59]⟩ i hix
    have hix' : Lib.index s.data.toList [59] = i := hix
    have hr : i + 1 ≤ s.size := hroom
    have E1 : Hid ((⟨(Lib.cut s.data.toList [59]).1.toArray⟩ : ByteArray) = s.extract 0 i) := e1
    have E2 : Hid ((⟨(Lib.cut s.data.toList [59]).2.1.toArray⟩ : ByteArray) = s.extract (i + 1) s.size) := e2
    have E3 : Hid ((Lib.cut s.data.toList [59]).2.2 = true) := e3
    have HI := Lib.hid hix'
    clear e1 e2 e3 hix hix' hroom
    have c1 : (0 : Int) ≤ ↑i := by omega
    have c2 : (↑i : Int) ≤ ↑s.size := by omega
    have c3 : (0 : Int) ≤ ↑i + 1 := by omega
    have c4 : (↑i + 1 : Int) ≤ ↑s.size := by omega
    have c5 : IntKind.i64.wrap ((i : Int) + 1) = (i : Int) + 1 := IntWalk.i64_in _ (by omega)
    have c6 : ((i : Int) + 1).toNat = i + 1 := by omega
    go_enter Tryz.func190, Tryz.ntmps190
    go_wp2_with (go_at_call 208; refine (HC.out _).mono ?_; rintro e w' ⟨rfl, rfl⟩; rw [HI.out])
    go_region
    go_wp2
    go_ret3
    exact ⟨by rw [E1.out, E2.out, E3.out]; rfl, 1, rfl⟩

theorem cutSemi_any (s : ByteArray) (w : World) (hs : s.size ≤ 281474976710656) :
    Calls Tryz.prog 172 #[.string s, .string ⟨#[59]⟩] w fun e w' => e = .returned (.tuple #[.string ⟨(Lib.cut s.data.toList [59]).1.toArray⟩, .string ⟨(Lib.cut s.data.toList [59]).2.1.toArray⟩, .bool (Lib.cut s.data.toList [59]).2.2]) ∧ ∃ n, w' = w.drewN n := by
  go_enter Tryz.func172, Tryz.ntmps172
  go_wp2_with (go_at_call 190; refine (cutSemiS_any _ _ hs).mono ?_; rintro e w' ⟨rfl, n, rfl⟩)
  go_ret3
  exact ⟨rfl, n, rfl⟩


theorem lastSemi_any (s : ByteArray) (w : World) (hs : s.size ≤ 281474976710656) :
    Calls Tryz.prog 189 #[.string s, .string ⟨#[59]⟩] w fun e w' => e = .returned (.int .i64 (Lib.lastIndexByte s 59)) ∧ w' = w :=
  Any.strings_LastIndex_one Tryz.lays148 s ⟨#[59]⟩ rfl (by omega) w

set_option maxRecDepth 100000 in
set_option maxHeartbeats 800000 in
theorem rest_any (s : ByteArray) (w : World) (hs : s.size ≤ 281474976710656) :
    Calls Tryz.prog 170 #[.string s] w fun e w' => e = .returned (.string ⟨(restL s.data.toList).toArray⟩) ∧ w' = w := by
  obtain ⟨i, hi, hle, hr⟩ := rest_at s
  have c1 : (0 : Int) ≤ (i : Int) := by omega
  have c2 : (i : Int) ≤ (s.size : Int) := by omega
  have c5 : IntKind.i64.wrap (Lib.lastIndexByte s 59 + 1) = (i : Int) := by rw [hi]; exact IntWalk.i64_in _ (by omega)
  have HX : Hid (s.extract i s.size = ⟨(restL s.data.toList).toArray⟩) := by
    show s.extract i s.size = _
    rw [hr, ext_list, List.take_of_length_le (by rw [len_list]; omega)]
  have HI := Lib.hid hi
  clear hr hi
  go_enter Tryz.func170, Tryz.ntmps170
  go_wp2_with (go_at_call 189; refine (lastSemi_any _ _ hs).mono ?_; rintro e w' ⟨rfl, rfl⟩)
  go_ret
  exact ⟨by rw [← HX.out]; simp, rfl⟩

end Go.Proofs.YtoimjpkgkcomnaaGreatDoor

/- The lines of a text, told one by one: what the program's iterator gives to each loop body. Condition: the text has at most 2^21 bytes. -/
namespace Go.Proofs.YtoimjpkgkcomnaaGreatDoor
open Go.RowKit Go.Shelf

/-- How long a text is. -/
def szOf : Value → Nat | .string s => s.size | _ => 0

theorem grownBy_drewN (W : World) (n : Nat) : W.grownBy (W.drewN n) none := ⟨rfl, rfl, rfl, Nat.le_refl _, fun _ _ _ => rfl⟩

set_option maxRecDepth 100000 in
set_option maxHeartbeats 1000000 in
theorem tell_in (n : Nat) (hn : 1 ≤ n) (l Bn : Nat) (s : ByteArray) (hs : s.size ≤ 2097152) (J Jx : List (List UInt8) → World → Prop)
    (hY : ∀ pre x W, J pre W → pre.length < (linesL s.data.toList).length → YieldAt Fence.wide (n - 1) Tryz.prog l #[.string ⟨x.toArray⟩] W fun e W' =>
      (e = .returned (.bool true) ∧ J (pre ++ [x]) W' ∧ True) ∨ (e = .returned (.bool false) ∧ Jx (pre ++ [x]) W'))
    (W : World) (hJ : AbidesFrom W.heap.size J) (hBn : W.cell? ⟨Bn, 0, none⟩ = some (.string s)) (h0 : J [] W) :
    CallsIn Fence.wide n Tryz.prog 171 #[.func (.yield l) #[] #[], .pointer (some ⟨Bn, 0, none⟩)] W fun e W' => (∃ v, e = .returned v) ∧
      ((∃ ys, ys = linesL s.data.toList ∧ J ys W') ∨ (∃ pre, pre <+: linesL s.data.toList ∧ Jx pre W')) := by
  refine callsIn_of_wp Tryz.func171 rfl trivial ?_ rfl
  simp only [Tryz.ntmps171, List.size_toArray, List.length_cons, List.length_nil, Nat.reduceAdd, Nat.reduceSub, Array.replicate_succ, Array.replicate_zero, List.push_toArray, List.append_toArray, List.nil_append, List.cons_append]
  gi_wp2
  gi_loopw [3] (fun p wr => ∃ (pre : List (List UInt8)) (t : ByteArray), p = .string t ∧ t.size ≤ s.size ∧ linesL s.data.toList = pre ++ linesL t.data.toList ∧ J pre wr)
    (fun p _ => szOf p)
  case atStart =>
    exact ⟨[], s, rfl, Nat.le_refl _, rfl, h0⟩
  case round =>
    obtain ⟨pre, t, rfl, ht, hx, hJs⟩ := hrel
    by_cases hi : 0 ≤ Lib.index t.data.toList [59]
    · have h3 : (Lib.cut t.data.toList [59]).2.2 = true := by unfold Lib.cut; rw [if_pos hi]
      have hl := lines_cut_yes hi
      have hm := cut_len hi
      rw [len_list] at hm
      obtain ⟨x, hxx⟩ : ∃ x, x = (Lib.cut t.data.toList [59]).1 := ⟨_, rfl⟩
      obtain ⟨r, hrr⟩ : ∃ r, r = (Lib.cut t.data.toList [59]).2.1 := ⟨_, rfl⟩
      have hcut : ∀ w, Calls Tryz.prog 172 #[.string t, .string ⟨#[59]⟩] w fun e w' => e = .returned (.tuple #[.string ⟨x.toArray⟩, .string ⟨r.toArray⟩, .bool true]) ∧ ∃ n, w' = w.drewN n := by
        intro w; have := cutSemi_any t w (by omega); rw [h3, ← hxx, ← hrr] at this; exact this
      rw [← hxx, ← hrr] at hl
      rw [← hrr] at hm
      rw [hl] at hx
      have HC := Lib.hid hcut
      have HX := Lib.hid hx
      have hlen : pre.length < (linesL s.data.toList).length := by rw [hx]; simp
      clear hcut hxx hrr h3 hi hx hl
      gi_wp2_with (refine ⟨trivial, ?_⟩; gi_at_call 172; refine (callsIn_wide.2 (HC.out _)).mono ?_; rintro e w1 ⟨rfl, k, rfl⟩; obtain ⟨fn, tmps, assign, body, hy, hR⟩ := hY pre x _ (hJ _ _ _ none hJs (grownBy_drewN wr k) (fun r e => by cases e)) hlen)
      refine hR.mono ?_
      rintro e W3 (⟨rfl, hJ3, _⟩ | ⟨rfl, hJx3⟩)
      · gi_wp2
        go_roundw
        case rel => exact ⟨pre ++ [x], ⟨r.toArray⟩, rfl, by (have e : (⟨r.toArray⟩ : ByteArray).size = r.length := rfl); omega, by rw [HX.out]; simp, hJ3⟩
        case measure => show (⟨r.toArray⟩ : ByteArray).size < t.size; exact hm
      · gi_wp2
        refine bodyPost_ret (results_none rfl _ _ _) rfl ?_
        exact ⟨⟨_, rfl⟩, .inr ⟨pre ++ [x], ⟨linesL r, by rw [HX.out]; simp⟩, hJx3⟩⟩
    · have hcut : ∀ w, Calls Tryz.prog 172 #[.string t, .string ⟨#[59]⟩] w fun e w' => e = .returned (.tuple #[.string t, .string ⟨#[]⟩, .bool false]) ∧ ∃ n, w' = w.drewN n := by
        intro w; have := cutSemi_any t w (by omega); rw [cutK_no hi] at this; exact this
      have HC := Lib.hid hcut
      have hl := lines_cut_no hi
      rw [hl, List.append_nil] at hx
      have HX := Lib.hid hx
      clear hcut hi hl hx
      gi_wp2_with (refine ⟨trivial, ?_⟩; gi_at_call 172; refine (callsIn_wide.2 (HC.out _)).mono ?_; rintro e w1 ⟨rfl, k, rfl⟩)
      refine ⟨fun _ h => (by cases h), ?_⟩
      gi_wp2
      refine bodyPost_ret (results_none rfl _ _ _) rfl ?_
      exact ⟨⟨_, rfl⟩, .inl ⟨pre, HX.out.symm, hJ _ _ _ none hJs (grownBy_drewN wr k) (fun r e => by cases e)⟩⟩

theorem linesOf_any (s : ByteArray) (w : World) :
    Calls Tryz.prog 147 #[.string s] w fun e w' => e = .returned (.func (.func 171) #[] #[.pointer (some ⟨w.heap.size, 0, none⟩)]) ∧ w' = w.alloc (.cells #[.string s] 9) := by
  go_enter Tryz.func147, Tryz.ntmps147
  go_wp2
  go_ret
  exact ⟨rfl, rfl⟩

/-- What linesOf hands back tells the text's lines, in their order, until a round says no more. -/
theorem tell_stops (n : Nat) (hn : 1 ≤ n) (Bn : Nat) (s : ByteArray) (hs : s.size ≤ 2097152) (w : World) (hBn : Bn < w.heap.size) (hc : w.cell? ⟨Bn, 0, none⟩ = some (.string s)) :
    SeqStopsK Fence.wide n Tryz.prog 171 #[.pointer (some ⟨Bn, 0, none⟩)] (fun x : List UInt8 => #[Value.string ⟨x.toArray⟩]) (fun _ _ => True) (fun ys => ys = linesL s.data.toList) (fun pre => pre <+: linesL s.data.toList) (linesL s.data.toList).length w := fun l J Jx W hW hJ _ hY h0 =>
  tell_in n hn l Bn s hs J Jx hY W hJ ((hW.cell (p := ⟨Bn, 0, none⟩) hBn).trans hc) h0

end Go.Proofs.YtoimjpkgkcomnaaGreatDoor

/- The lines of a text, told one by one, each with the knowledge that it is one of the text's lines. Condition: the text has at most 2^21 bytes. -/
namespace Go.Proofs.YtoimjpkgkcomnaaGreatDoor
open Go.RowKit Go.Shelf

/-- A line of this text. -/
abbrev LineOf (s : ByteArray) := { x : List UInt8 // x ∈ linesL s.data.toList }

set_option maxRecDepth 100000 in
set_option maxHeartbeats 1000000 in
theorem tell_inS (n : Nat) (hn : 1 ≤ n) (l Bn : Nat) (s : ByteArray) (hs : s.size ≤ 2097152) (J Jx : List (LineOf s) → World → Prop)
    (hY : ∀ pre x W, J pre W → pre.length < (linesL s.data.toList).length → YieldAt Fence.wide (n - 1) Tryz.prog l #[.string ⟨x.1.toArray⟩] W fun e W' =>
      (e = .returned (.bool true) ∧ J (pre ++ [x]) W' ∧ True) ∨ (e = .returned (.bool false) ∧ Jx (pre ++ [x]) W'))
    (W : World) (hJ : AbidesFrom W.heap.size J) (hBn : W.cell? ⟨Bn, 0, none⟩ = some (.string s)) (h0 : J [] W) :
    CallsIn Fence.wide n Tryz.prog 171 #[.func (.yield l) #[] #[], .pointer (some ⟨Bn, 0, none⟩)] W fun e W' => (∃ v, e = .returned v) ∧
      ((∃ ys : List (LineOf s), ys.map Subtype.val = linesL s.data.toList ∧ J ys W') ∨ (∃ pre : List (LineOf s), pre.map Subtype.val <+: linesL s.data.toList ∧ Jx pre W')) := by
  refine callsIn_of_wp Tryz.func171 rfl trivial ?_ rfl
  simp only [Tryz.ntmps171, List.size_toArray, List.length_cons, List.length_nil, Nat.reduceAdd, Nat.reduceSub, Array.replicate_succ, Array.replicate_zero, List.push_toArray, List.append_toArray, List.nil_append, List.cons_append]
  gi_wp2
  gi_loopw [3] (fun p wr => ∃ (pre : List (LineOf s)) (t : ByteArray), p = .string t ∧ t.size ≤ s.size ∧ linesL s.data.toList = pre.map Subtype.val ++ linesL t.data.toList ∧ J pre wr)
    (fun p _ => szOf p)
  case atStart =>
    exact ⟨[], s, rfl, Nat.le_refl _, rfl, h0⟩
  case round =>
    obtain ⟨pre, t, rfl, ht, hx, hJs⟩ := hrel
    by_cases hi : 0 ≤ Lib.index t.data.toList [59]
    · have h3 : (Lib.cut t.data.toList [59]).2.2 = true := by unfold Lib.cut; rw [if_pos hi]
      have hl := lines_cut_yes hi
      have hm := cut_len hi
      rw [len_list] at hm
      obtain ⟨x, hxx⟩ : ∃ x, x = (Lib.cut t.data.toList [59]).1 := ⟨_, rfl⟩
      obtain ⟨r, hrr⟩ : ∃ r, r = (Lib.cut t.data.toList [59]).2.1 := ⟨_, rfl⟩
      have hcut : ∀ w, Calls Tryz.prog 172 #[.string t, .string ⟨#[59]⟩] w fun e w' => e = .returned (.tuple #[.string ⟨x.toArray⟩, .string ⟨r.toArray⟩, .bool true]) ∧ ∃ n, w' = w.drewN n := by
        intro w; have := cutSemi_any t w (by omega); rw [h3, ← hxx, ← hrr] at this; exact this
      rw [← hxx, ← hrr] at hl
      rw [← hrr] at hm
      rw [hl] at hx
      have HC := Lib.hid hcut
      have HX := Lib.hid hx
      have hlen : pre.length < (linesL s.data.toList).length := by rw [hx]; simp
      have hmem : x ∈ linesL s.data.toList := by rw [hx]; simp
      clear hcut hxx hrr h3 hi hx hl
      gi_wp2_with (refine ⟨trivial, ?_⟩; gi_at_call 172; refine (callsIn_wide.2 (HC.out _)).mono ?_; rintro e w1 ⟨rfl, k, rfl⟩; obtain ⟨fn, tmps, assign, body, hy, hR⟩ := hY pre ⟨x, hmem⟩ _ (hJ _ _ _ none hJs (grownBy_drewN wr k) (fun r e => by cases e)) hlen)
      refine hR.mono ?_
      rintro e W3 (⟨rfl, hJ3, _⟩ | ⟨rfl, hJx3⟩)
      · gi_wp2
        go_roundw
        case rel => exact ⟨pre ++ [⟨x, hmem⟩], ⟨r.toArray⟩, rfl, by (have e : (⟨r.toArray⟩ : ByteArray).size = r.length := rfl); omega, HX.out.trans (by simp), hJ3⟩
        case measure => show (⟨r.toArray⟩ : ByteArray).size < t.size; exact hm
      · gi_wp2
        refine bodyPost_ret (results_none rfl _ _ _) rfl ?_
        exact ⟨⟨_, rfl⟩, .inr ⟨pre ++ [⟨x, hmem⟩], ⟨linesL r, (HX.out.trans (by simp)).symm⟩, hJx3⟩⟩
    · have hcut : ∀ w, Calls Tryz.prog 172 #[.string t, .string ⟨#[59]⟩] w fun e w' => e = .returned (.tuple #[.string t, .string ⟨#[]⟩, .bool false]) ∧ ∃ n, w' = w.drewN n := by
        intro w; have := cutSemi_any t w (by omega); rw [cutK_no hi] at this; exact this
      have HC := Lib.hid hcut
      have hl := lines_cut_no hi
      rw [hl, List.append_nil] at hx
      have HX := Lib.hid hx
      clear hcut hi hl hx
      gi_wp2_with (refine ⟨trivial, ?_⟩; gi_at_call 172; refine (callsIn_wide.2 (HC.out _)).mono ?_; rintro e w1 ⟨rfl, k, rfl⟩)
      refine ⟨fun _ h => (by cases h), ?_⟩
      gi_wp2
      refine bodyPost_ret (results_none rfl _ _ _) rfl ?_
      exact ⟨⟨_, rfl⟩, .inl ⟨pre, HX.out.symm, hJ _ _ _ none hJs (grownBy_drewN wr k) (fun r e => by cases e)⟩⟩

theorem tell_stopsS (n : Nat) (hn : 1 ≤ n) (Bn : Nat) (s : ByteArray) (hs : s.size ≤ 2097152) (w : World) (hBn : Bn < w.heap.size) (hc : w.cell? ⟨Bn, 0, none⟩ = some (.string s)) :
    SeqStopsK Fence.wide n Tryz.prog 171 #[.pointer (some ⟨Bn, 0, none⟩)] (fun x : LineOf s => #[Value.string ⟨x.1.toArray⟩]) (fun _ _ => True) (fun ys => ys.map Subtype.val = linesL s.data.toList) (fun pre => pre.map Subtype.val <+: linesL s.data.toList) (linesL s.data.toList).length w := fun l J Jx W hW hJ _ hY h0 =>
  tell_inS n hn l Bn s hs J Jx hY W hJ ((hW.cell (p := ⟨Bn, 0, none⟩) hBn).trans hc) h0

end Go.Proofs.YtoimjpkgkcomnaaGreatDoor

/- The layings of the library's contracts at this dump: that the bodies of the library functions that are met here are the bodies that the contracts were proved of. No condition. -/
namespace Go.Proofs
open Go.Shelf
def Tryz.lays169_ren : Go.Shelf.Ren := ⟨fun | 169 => 151 | n => n, fun | 70 => 174 | 9 => 9 | 0 => 0 | 72 => 176 | 37 => 22 | 127 => 199 | 3 => 3 | 5 => 5 | n => n, fun | n => n⟩
theorem Tryz.lays169 : Go.Proofs.Lays.n169 Tryz.prog Tryz.lays169_ren := {
  mixed := by kernel_rfl
  f169 := Tryz.func151.trans (congrArg some (by kernel_rfl))
  t0 := Tryz.underlying0
  a0 := Tryz.isAgg0
  z0 := Tryz.sizeOf0
  v0 := Tryz.zeroValue0
  t3 := Tryz.underlying3
  a3 := Tryz.isAgg3
  z3 := Tryz.sizeOf3
  v3 := Tryz.zeroValue3
  t9 := Tryz.underlying9
  a9 := Tryz.isAgg9
  z9 := Tryz.sizeOf9
  v9 := Tryz.zeroValue9
  t37 := Tryz.underlying22
  a37 := Tryz.isAgg22
  z37 := Tryz.sizeOf22
  v37 := Tryz.zeroValue22
  t70 := Tryz.underlying174
  a70 := Tryz.isAgg174
  z70 := Tryz.sizeOf174
  v70 := Tryz.zeroValue174
  t72 := Tryz.underlying176
  a72 := Tryz.isAgg176
  z72 := Tryz.sizeOf176
  v72 := Tryz.zeroValue176
  t127 := Tryz.underlying199
  a127 := Tryz.isAgg199
  z127 := Tryz.sizeOf199
  v127 := Tryz.zeroValue199 }
end Go.Proofs

/- strings.Builder in this program: what WriteString and String do to a builder that the call owns. Condition: no more than 2^47 bytes. -/
namespace Go.Proofs.YtoimjpkgkcomnaaGreatDoor
open Go.RowKit Go.Shelf

set_option maxRecDepth 100000 in
theorem bldExtra : Builder.Extra Tryz.prog Tryz.lays169_ren where
  sizeBuilder := by kernel_rfl
  liesBuilder := by kernel_rfl
  t5 := by kernel_rfl
  a5 := fun _ => by kernel_rfl
  z5 := fun _ => by kernel_rfl
  v5 := fun _ => by kernel_rfl
  infoByte := by kernel_rfl
  cellsByte := by kernel_rfl
  sizeByte := by kernel_rfl
  neB5 := by decide

/-- A builder of the call's own, behind B, that holds these bytes. -/
def Bld (B b : Nat) (l : List UInt8) (w : World) : Prop := Lib.IsBuilderF 176 5 B b (Lib.byteCells l) w
/-- What a builder's own work leaves: all blocks but its own, and rows of bytes. -/
def Kept (b : Nat) (w w' : World) : Prop := Lib.OthersKept 5 (some b) w w'

theorem buildString_any (B b : Nat) (l : List UInt8) (w : World) (h : Bld B b l w) (hB : B ≤ w.heap.size) :
    Calls Tryz.prog 151 #[.pointer (some ⟨b, 0, none⟩)] w fun e w' => e = .returned (.string ⟨l.toArray⟩) ∧ Bld B b l w' ∧ Below B w w' ∧ Kept b w w' :=
  Any.Builder_String_any_k Tryz.lays169 bldExtra B b l w h hB

set_option maxRecDepth 100000 in
set_option maxHeartbeats 1600000 in
theorem check_used (b : Nat) (w : World) (h0 : w.cell? ⟨b, 0, none⟩ = some (.pointer (some ⟨b, 0, none⟩))) :
    Calls Tryz.prog 173 #[.pointer (some ⟨b, 0, none⟩)] w fun e w' => e = .returned (.tuple #[]) ∧ w = w' := by
  obtain ⟨j, hj, _⟩ := Option.map_eq_some_iff.1 bldExtra.sizeBuilder
  have hs := Lib.run_neq_ptr_same w ⟨b, 0, none⟩ Tryz.underlying174 hj
  go_enter Tryz.func173, Tryz.ntmps173
  go_wp2
  try rw [hs]
  try go_wp2
  go_end0
  exact ⟨rfl, rfl⟩

set_option maxRecDepth 100000 in
set_option maxHeartbeats 1600000 in
theorem check_fresh (b : Nat) (w : World) (h0 : w.cell? ⟨b, 0, none⟩ = some (.pointer none)) (hsh : w.shape? b = some (176, 2)) (hfz : w.frozen? ⟨b, 0, none⟩ = false) :
    Calls Tryz.prog 173 #[.pointer (some ⟨b, 0, none⟩)] w fun e w' => e = .returned (.tuple #[]) ∧ w' = w.setCell ⟨b, 0, none⟩ (.pointer (some ⟨b, 0, none⟩)) := by
  obtain ⟨j, hj, hjs⟩ := Option.map_eq_some_iff.1 bldExtra.sizeBuilder
  have hu := Lib.run_to_unsafe w ⟨b, 0, none⟩ Tryz.underlying174 Tryz.underlying207 hj (by rw [hjs]; decide) hsh (Nat.zero_lt_succ 1)
  have hn : (callFunc 191 #[.pointer (some ⟨b, 0, none⟩)]).run Tryz.prog w = .ok (.value (.pointer (some ⟨b, 0, none⟩))) w := by
    rw [run_callFunc_extern Tryz.func191 (by kernel_rfl) (by kernel_rfl) (by kernel_rfl) (e := Extern.AbiNoEscape.same) (by kernel_rfl), Lib.run_noEscape]
    rfl
  have hf := Lib.run_from_unsafe w ⟨b, 0, none⟩ Tryz.underlying207 Tryz.underlying174 hj hsh bldExtra.liesBuilder
  go_enter Tryz.func173, Tryz.ntmps173
  go_wp2
  first
    | rw [hu]
    | skip
  try simp only [Result.andThen]
  try rw [Oper.upon_value]
  try go_wp2
  try rw [hn]
  try simp only [Result.andThen]
  try rw [Oper.upon_value]
  try go_wp2
  try rw [hf]
  try simp only [Result.andThen]
  try rw [Oper.upon_value]
  try go_wp2
  go_end0
  exact ⟨rfl, rfl⟩

theorem check_any (B b : Nat) (l : List UInt8) (w : World) (h : Bld B b l w) :
    Calls Tryz.prog 173 #[.pointer (some ⟨b, 0, none⟩)] w fun e w' => e = .returned (.tuple #[]) ∧ Lib.BuilderAtF 176 5 B b (.pointer (some ⟨b, 0, none⟩)) (Lib.byteCells l) w' ∧ Below B w w' ∧ Kept b w w' := by
  rcases h with h | h
  · refine (check_fresh b w h.cell0 h.shape h.frozen0).mono ?_
    rintro e w' ⟨rfl, rfl⟩
    exact ⟨rfl, h.used _, (Below.refl B w).setCell (p := ⟨b, 0, none⟩) h.1 _, (Lib.OthersKept.refl _ _ w).setCell ⟨b, 0, none⟩ rfl _⟩
  · refine (check_used b w h.cell0).mono ?_
    rintro e w' ⟨rfl, rfl⟩
    exact ⟨rfl, h, Below.refl B _, Lib.OthersKept.refl _ _ _⟩

set_option maxRecDepth 100000 in
set_option maxHeartbeats 1600000 in
theorem write_any (B b : Nat) (l x : List UInt8) (w : World) (h : Bld B b l w) (hlen : l.length + x.length ≤ 140737488355328) (hB : B ≤ w.heap.size) :
    Calls Tryz.prog 148 #[.pointer (some ⟨b, 0, none⟩), .string ⟨x.toArray⟩] w fun e w' => e = .returned (.tuple #[.int .i64 (x.length : Int), .nilIface]) ∧ Bld B b (l ++ x) w' ∧ Below B w w' ∧ Kept b w w' := by
  obtain ⟨i0, hi, hz0, hz1, hz2⟩ := info_parts bldExtra.infoByte
  have hx : (Lib.strCells ⟨x.toArray⟩ : List Value) = Lib.byteCells x := by simp [Lib.strCells, Lib.byteCells]
  have hxs : (⟨x.toArray⟩ : ByteArray).size = x.length := by show x.toArray.size = _; simp
  have HC : Hid (Calls Tryz.prog 173 #[.pointer (some ⟨b, 0, none⟩)] w fun e w' => e = .returned (.tuple #[]) ∧ Lib.BuilderAtF 176 5 B b (.pointer (some ⟨b, 0, none⟩)) (Lib.byteCells l) w' ∧ Below B w w' ∧ Kept b w w') := check_any B b l w h
  have HX := Lib.hid hx
  have HXS := Lib.hid hxs
  clear hx hxs h
  go_enter Tryz.func148, Tryz.ntmps148
  go_wp2_with fail
  (go_at_call 173; refine HC.out.mono ?_; rintro e w1 ⟨rfl, h1, hb1, hk1⟩)
  obtain ⟨hBb, v, hbk, hown, hne⟩ := h1
  have c1 : w1.cell? ⟨b, 1, none⟩ = some v := by rw [Lib.cell_of_heap hbk]; rfl
  have hbl : b < w1.heap.size := (Array.getElem?_eq_some_iff.1 hbk).1
  have z1 := hb1.size
  go_wp2_with (at_builtin; refine Lib.wpList_append_own_stringF _ rfl _ _ 22 9 rfl B 5 i0 Tryz.underlying22 Tryz.underlying9 hi hz0 hz1 hz2 _ _ _ rfl hown ⟨x.toArray⟩ rfl ?c3 ?c4 ?c5 ?_)
  case c3 => rw [HXS.out]; unfold maxLen; rw [Lib.byteCells_length]; omega
  case c4 => rw [HXS.out, Lib.byteCells_length]; omega
  case c5 => omega
  intro v' w2 hown' hgrow _
  have hb2 : w2.heap[b]? = some (.cells #[.pointer (some ⟨b, 0, none⟩), v] 176 (0, 0)) := by
    rw [hgrow.block b hbl (fun e => hne e.symm)]
    exact hbk
  have d1 : w2.cell? ⟨b, 1, none⟩ = some v := by rw [Lib.cell_of_heap hb2]; rfl
  have f1 : w2.frozen? ⟨b, 1, none⟩ = false := Lib.frozen_of_heap hb2 1
  obtain ⟨ao, n', cap, rfl⟩ : ∃ ao n' cap, v' = .slice ao n' cap := by
    rcases hown'.2 with ⟨hv, _⟩ | ⟨g, cap, cur, fz, hv, _⟩
    · exact ⟨_, _, _, hv⟩
    · exact ⟨_, _, _, hv⟩
  go_wp2_with fail
  go_ret2
  refine ⟨by first | rfl | (rw [HXS.out]) | simp, ?_, ?_, (Lib.OthersKept.grown hk1 hgrow (Lib.ownsRowF_kind hown)).setCell ⟨b, 1, none⟩ rfl _⟩
  · refine .inr (Lib.BuilderAtF.put hBb hb2 ?_ bldExtra.neB5)
    rw [Lib.byteCells_append, ← HX.out]
    rw [List.length_append, Lib.strCells_length]
    exact hown'
  · exact (hb1.grown hgrow (by omega) (fun k hk => (hown.lt k hk).1)).setCell (p := ⟨b, 1, none⟩) hBb _

end Go.Proofs.YtoimjpkgkcomnaaGreatDoor

/- LinOk of the program, at every text. No condition. -/
namespace Go.Proofs.YtoimjpkgkcomnaaGreatDoor
open Go.RowKit

set_option maxRecDepth 100000 in
set_option maxHeartbeats 800000 in
theorem implByte_any (c : UInt8) (w : World) :
    Calls Tryz.prog 188 #[.int .u8 (c.toNat : Int)] w fun e w' => e = .returned (.bool (byteB c)) ∧ w = w' := by
  by_cases h1 : 97 ≤ c.toNat <;> by_cases h2 : c.toNat ≤ 122 <;> by_cases h3 : 48 ≤ c.toNat <;> by_cases h4 : c.toNat ≤ 57 <;> by_cases h5 : c.toNat = 32 <;>
    first
    | (exfalso; omega)
    | (have h6 : ((c.toNat : Int) == 32) = decide (c.toNat = 32) := by (rw [Bool.eq_iff_iff]; simp; omega)
       simp only [h5, decide_true, decide_false] at h6
       go_enter Tryz.func188, Tryz.ntmps188
       go_wp2
       go_ret
       exact ⟨by (simp [byteB, h1, h2, h3, h4, h5] <;> omega), rfl⟩)

set_option maxRecDepth 100000 in
set_option maxHeartbeats 800000 in
theorem implLin_all (s : ByteArray) (w : World) :
    Calls Tryz.prog 169 #[.string s] w fun e w' => e = .returned (.bool (linB s.data.toList)) ∧ w = w' := by
  by_cases h16 : 16 < s.size
  · go_enter Tryz.func169, Tryz.ntmps169
    go_wp2_with fail
    go_ret
    exact ⟨ret_bool (by unfold linB; rw [len_list, decide_eq_false (by omega)]; rfl), rfl⟩
  · go_enter Tryz.func169, Tryz.ntmps169
    go_wp2_with fail
    go_loop [9] (fun i => ∃ k : Nat, k ≤ s.size ∧ i = .int .i64 k ∧ (∀ c ∈ s.data.toList.take k, byteB c = true)) (fun i => s.size - (intOf i).toNat)
    case atStart => exact ⟨0, Nat.zero_le _, rfl, by simp⟩
    case round =>
      obtain ⟨k, hk, rfl, hd⟩ := hrel
      have HD := Lib.hid hd
      clear hd
      by_cases hlt : k < s.size
      · have HT : Hid (s.data.toList.take (k + 1) = s.data.toList.take k ++ [s[k]]) := take_snoc s k hlt
        by_cases hb : byteB s[k] = true
        · have HB := Lib.hid hb
          go_wp2_with (go_at_call 188; refine (implByte_any _ _).mono ?_; rintro e w' ⟨rfl, rfl⟩)
          go_round
          case rel =>
            refine ⟨k + 1, by omega, by go_num, ?_⟩
            rw [HT.out]; intro c hc
            rcases List.mem_append.1 hc with hc | hc
            · exact HD.out c hc
            · simp at hc; subst hc; exact HB.out
          case measure => simp [intOf]; omega
        · have HB : Hid (linB s.data.toList = false) := by
            unfold linB
            have : s.data.toList.all byteB = false := by
              rw [List.all_eq_false]; exact ⟨s[k], mem_at s k hlt, hb⟩
            show (_ && _) = false
            rw [this]; simp
          go_wp2_with (go_at_call 188; refine (implByte_any _ _).mono ?_; rintro e w' ⟨rfl, rfl⟩)
          go_ret
          exact ⟨ret_bool HB.out.symm, rfl⟩
      · have HL : Hid (linB s.data.toList = true) := by
          have he : s.data.toList.take k = s.data.toList := List.take_of_length_le (by rw [len_list]; omega)
          show (_ && _) = true
          rw [len_list, decide_eq_true (by omega), ← he, List.all_eq_true.2 HD.out]; rfl
        go_wp2_with fail
        go_ret
        exact ⟨ret_bool HL.out.symm, rfl⟩

theorem implLin_any (s : ByteArray) (w : World) (_ : s.size ≤ 281474976710656) :
    Calls Tryz.prog 169 #[.string s] w fun e w' => e = .returned (.bool (linB s.data.toList)) ∧ w = w' := implLin_all s w

end Go.Proofs.YtoimjpkgkcomnaaGreatDoor
